/- ExJ, ExP, Ex9, Exa. -/
import Derived.Test.YtapfaaaepnplcaaGreatDoorG42
import Derived.Laws.AppendOwnNone
import Derived.Laws.Cover3
set_option maxRecDepth 100000
set_option maxHeartbeats 4000000
namespace Go.Proofs.YtapfaaaepnplcaaGreatDoor
open Go.RowKit Go.Great Go.Maps Go.Deep Go.WideShapes Go.ChangeShapes
/-- a job: its period, phase and rank -/
structure Jb where
  pe : Int
  ph : Int
  rk : Int
def jbC (x : Jb) : List Value := [.int .i64 x.pe, .int .i64 x.ph, .int .i64 x.rk]
abbrev jC (a b c : Int) : Array Value := #[.int .i64 a, .int .i64 b, .int .i64 c]
/-- its numbers are ints -/
structure JbOk (x : Jb) : Prop where
  a0 : -9223372036854775808 ≤ x.pe ∧ x.pe ≤ 9223372036854775807
  b0 : -9223372036854775808 ≤ x.ph ∧ x.ph ≤ 9223372036854775807
  c0 : -9223372036854775808 ≤ x.rk ∧ x.rk ≤ 9223372036854775807
theorem info_jb : (Tryz.prog.info? 92).map (fun i => (i.zero, i.size, i.bytes)) = some (some (.agg #[.int .i64 0, .int .i64 0, .int .i64 0]), 3, 24) := by kernel_rfl
theorem new_cell3 (w : World) (g : Nat) (hg : g = w.heap.size) (x0 x1 x2 : Value) (t : TypeId) : ∀ j u, [x0, x1, x2][j]? = some u → (w.alloc (.cells #[x0, x1, x2] t)).cell? ((⟨g, 0, none⟩ : Addr).add j) = some u := by
  intro j u h
  subst hg
  have hB := Blk.new w #[x0, x1, x2] t
  have hc := hB.cell j (v := u) (by simpa using h)
  rw [add_plain', Nat.zero_add]
  exact hc
def jbsC (L : List Jb) : List Value := L.flatMap jbC
theorem jbsC_len (L : List Jb) : (jbsC L).length = L.length * 3 := by
  induction L with
  | nil => rfl
  | cons x r ih => rw [jbsC, List.flatMap_cons, List.length_append, ← jbsC, ih, List.length_cons, show (jbC x).length = 3 from rfl]; omega
theorem jbsC_app (L M : List Jb) : jbsC (L ++ M) = jbsC L ++ jbsC M := by simp [jbsC]
theorem jbsC_get {x : Jb} {j : Nat} {u : Value} (hj : (jbC x)[j]? = some u) : ∀ {L : List Jb} {i : Nat}, L[i]? = some x → (jbsC L)[i * 3 + j]? = some u
  | [], i, h => by simp at h
  | y :: r, 0, h => by
    simp at h
    subst h
    rw [jbsC, List.flatMap_cons, Nat.zero_mul, Nat.zero_add, List.getElem?_append_left ((List.getElem?_eq_some_iff.1 hj).1)]
    exact hj
  | y :: r, i + 1, h => by
    have hl : (jbC y).length = 3 := rfl
    rw [jbsC, List.flatMap_cons, List.getElem?_append_right (by rw [hl]; omega), hl, show (i + 1) * 3 + j - 3 = i * 3 + j by omega]
    exact jbsC_get hj (by simpa using h)
theorem jbsC_one (L : List Jb) : ∀ u ∈ jbsC L, u.oneCell' = true := by
  intro u hu
  unfold jbsC at hu
  rw [List.mem_flatMap] at hu
  obtain ⟨x, _, hx⟩ := hu
  simp [jbC] at hx
  rcases hx with rfl | rfl | rfl <;> rfl
/-- a list of items of the call's own -/
def JRow (w : World) (base : Nat) (v : Value) (L : List Jb) : Prop := w.ownsRow base 92 3 v L.length (jbsC L)
theorem JRow.nil (w : World) (base : Nat) : JRow w base (.slice none 0 0) [] := World.ownsRow_nil _ _ _ _
theorem JRow.grown {w w' : World} {base : Nat} {v : Value} {L : List Jb} {row : Option Nat} (h : JRow w base v L) (g : w.grownBy w' row) (hne : v.ownBlock = none ∨ v.ownBlock ≠ row) : JRow w' base v L := World.ownsRow.kept h g hne
theorem JRow.below {w w' : World} {base : Nat} {v : Value} {L : List Jb} (h : JRow w base v L) (hb : Below w.heap.size w w') : JRow w' base v L := h.grown (grown_below hb none) (by cases v.ownBlock <;> simp)
theorem JRow.alloc {w : World} {base : Nat} {v : Value} {L : List Jb} (h : JRow w base v L) (o : Obj) : JRow (w.alloc o) base v L := h.below (below_alloc w o)
theorem JRow.lower {w : World} {base base' : Nat} {v : Value} {L : List Jb} (h : JRow w base v L) (hb : base' ≤ base) : JRow w base' v L := by
  refine ⟨h.1, ?_⟩
  rcases h.2 with q | ⟨g2, cap2, cur2, q1, q2, q3⟩
  · exact .inl q
  · exact .inr ⟨g2, cap2, cur2, q1, Nat.le_trans hb q2, q3⟩
theorem JRow.shape {w : World} {base : Nat} {v : Value} {L : List Jb} (h : JRow w base v L) : ∃ a cap, v = .slice a L.length cap := by
  rcases h.2 with ⟨h1, h2⟩ | ⟨g, cap, cur, h1, _⟩
  · exact ⟨none, 0, by rw [h1, h2]⟩
  · exact ⟨_, cap, h1⟩
theorem JRow.noblk {w : World} {base : Nat} {v : Value} {L : List Jb} {g : Nat} {cs : Array Value} {t : TypeId} (h : JRow w base v L) (hG : Blk w g cs t) (hne : 92 ≠ t) : v.ownBlock = none ∨ v.ownBlock ≠ some g := Or.inr (blk_apart h hG hne)
theorem JRow.rws {w : World} {base : Nat} {v : Value} {L : List Jb} (h : JRow w base v L) : Rws w v 3 jbC L := by
  have h0 := h
  rcases h.2 with ⟨h1, h2⟩ | ⟨g, cap, cur, h1, hb, hh, hnc, hcm, _⟩
  · have : L = [] := List.eq_nil_of_length_eq_zero h2
    subst this h1
    exact ⟨by simp, none, 0, rfl, fun h => absurd h (by simp)⟩
  · subst h1
    refine ⟨Nat.le_trans hnc hcm, _, cap, rfl, fun _ => ⟨g, 0, rfl, lt_of_block hh, fun i x hx j u hu => ?_⟩⟩
    have := World.ownsRow.cells h0 (g := g) rfl (i * 3 + j) u (jbsC_get hu hx)
    rw [add_plain'] at this
    rw [← this]
    congr 2
    omega
/-- a list that came in, its cells one behind the other -/
theorem Rws.cellsJ {w : World} {L : List Jb} {g o cap : Nat} (h : Rws w (.slice (some ⟨g, o, none⟩) L.length cap) 3 jbC L) : ∀ j u, (jbsC L)[j]? = some u → w.cell? ((⟨g, o, none⟩ : Addr).add j) = some u := by
  obtain ⟨_, a, cp, e, hc⟩ := h
  intro j u hu
  have hj := (List.getElem?_eq_some_iff.1 hu).1
  rw [jbsC_len] at hj
  have hl : 0 < L.length := by omega
  obtain ⟨g', o', e2, hg, hcc⟩ := hc hl
  injection e with e _ _
  rw [e2] at e
  injection e with e
  injection e with e3 e4
  subst e3 e4
  have hi : j / 3 < L.length := by omega
  have hx : L[j / 3]? = some L[j / 3] := by simp [hi]
  have hj4 : j % 3 < 3 := Nat.mod_lt _ (by omega)
  obtain ⟨v, hv⟩ : ∃ v, (jbC L[j / 3])[j % 3]? = some v := ⟨(jbC L[j / 3])[j % 3]'(by show _ < 3; exact hj4), by simp⟩
  have h1 := jbsC_get hv hx
  rw [show j / 3 * 3 + j % 3 = j by omega, hu] at h1
  injection h1 with h1
  subst h1
  rw [add_plain', show o + j = o + j / 3 * 3 + j % 3 by omega]
  exact hcc _ _ hx _ _ hv
theorem Rws.allJ {w : World} {L : List Jb} {a : Option Addr} {cap : Nat} (h : Rws w (.slice a L.length cap) 3 jbC L) : (a = none → L = []) ∧ ∀ ad, a = some ad → ∀ W, Below w.heap.size w W → ∀ j u, (jbsC L)[j]? = some u → W.cell? (ad.add j) = some u := by
  have h0 := h
  obtain ⟨_, a', cap', e, hcc⟩ := h
  injection e with e1 e2 e3
  subst e1 e3
  refine ⟨fun ha => ?_, fun ad ha W hb j u hu => ?_⟩
  · refine List.eq_nil_of_length_eq_zero (Decidable.byContradiction fun hn => ?_)
    obtain ⟨g, o, e, _⟩ := hcc (by omega)
    rw [ha] at e
    cases e
  · have hj := (List.getElem?_eq_some_iff.1 hu).1
    rw [jbsC_len] at hj
    obtain ⟨g, o, e, _⟩ := hcc (by omega)
    rw [e] at ha h0
    injection ha with ha
    rw [← ha]
    exact (h0.below hb).cellsJ j u hu
theorem one_Jb {H : Type} {enc : TypeId × Value → H} {W : World} (n : Nat) (cs : List Value) (y : DataW H × List MemPlace) (h : DataW.trod enc Tryz.prog W 0 (fun _ => true) true n 92 cs = some y) (hl : cs.length = 3) : ∃ x, JbOk x ∧ cs = jbC x := by
  obtain ⟨c0, h0⟩ := list_of hl 0 (by omega)
  obtain ⟨c1, h1⟩ := list_of hl 1 (by omega)
  obtain ⟨c2, h2⟩ := list_of hl 2 (by omega)
  obtain ⟨a, e1, ha⟩ := int_field Tryz.underlying92 h 0 0 (by kernel_rfl) h0
  obtain ⟨b, e2, hb⟩ := int_field Tryz.underlying92 h 1 1 (by kernel_rfl) h1
  obtain ⟨c, e3, hc⟩ := int_field Tryz.underlying92 h 2 2 (by kernel_rfl) h2
  subst e1 e2 e3
  refine ⟨⟨a, b, c⟩, ⟨ha, hb, hc⟩, ?_⟩
  refine List.ext_getElem? fun i => ?_
  match i with
  | 0 => rw [h0]; rfl
  | 1 => rw [h1]; rfl
  | 2 => rw [h2]; rfl
  | i + 3 => rw [List.getElem?_eq_none (by omega)]; rfl
/-- a list of items that came in -/
def JbsIn (w : World) (v : Value) (L : List Jb) : Prop := (Rws w v 3 jbC L ∧ ∀ x ∈ L, JbOk x) ∧ L.length * 24 + 4096 ≤ 140737488355328
theorem open_jobs {H : Type} {enc : TypeId × Value → H} {W : World} {v : Value} {d : DataW H} {p : List MemPlace} {r : Reach} {b0 : Nat} (hok : Value.okWide Tryz.prog W r b0 155 v) (h : DataW.Trod enc Tryz.prog W 0 (fun _ => true) true 155 v d p) (hw : ∀ q ∈ DataW.weights Tryz.prog 155 d, q ≤ reachBytes) : ∃ L, JbsIn W v L := by
  obtain ⟨ad, ln, cp, rfl⟩ := okWide_slice Tryz.underlying155 hok
  obtain ⟨fuel, hf⟩ := h
  obtain ⟨L, h1, h2, h3⟩ := open_rws (k := 3) (cel := jbC) (ok := JbOk) (by omega) (fun _ => rfl) Tryz.underlying155 (by kernel_rfl) (fun n cs y h hl => one_Jb n cs y h hl) hf
  refine ⟨L, ⟨h2, h1⟩, ?_⟩
  rcases h3 with rfl | ⟨l, r, e, hl⟩
  · simp
  · have e : d = .slice l r := e
    have hb : Tryz.prog.bytesOf 92 = 24 := by kernel_rfl
    have hwt := hw ((l.length + r.length) * 24) (by rw [e]; simp [DataW.weights, Tryz.underlying155, hb])
    have hwt' : (l.length + r.length) * 24 ≤ 140737488351232 := hwt
    omega
/-- a list of items that came in: where it is nil it has no room either -/
def JbsN (w : World) (v : Value) (L : List Jb) : Prop := JbsIn w v L ∧ ∀ n c, v = .slice none n c → c = 0
theorem open_jobsN {H : Type} {enc : TypeId × Value → H} {W : World} {v : Value} {d : DataW H} {p : List MemPlace} {r : Reach} {b0 : Nat} (hok : Value.okWide Tryz.prog W r b0 155 v) (h : DataW.Trod enc Tryz.prog W 0 (fun _ => true) true 155 v d p) (hw : ∀ q ∈ DataW.weights Tryz.prog 155 d, q ≤ reachBytes) : ∃ L, JbsN W v L := by
  obtain ⟨L, hL⟩ := open_jobs hok h hw
  refine ⟨L, hL, ?_⟩
  obtain ⟨ad, ln, cp, rfl⟩ := okWide_slice Tryz.underlying155 hok
  obtain ⟨fuel, hf⟩ := h
  rcases open_slice Tryz.underlying155 hf with ⟨hcs, _⟩ | ⟨a, len, cap, m, n, D, Pl, hcs, _⟩
  · injection hcs with hcs _
    injection hcs with h1 h2 h3
    intro n c e
    injection e with e1 e2 e3
    omega
  · injection hcs with hcs _
    injection hcs with h1 h2 h3
    intro n c e
    injection e with e1 e2 e3
    rw [h1] at e1
    cases e1
theorem wpList_append_any {P : Program} {w : World} {ops : Array Oper} {rest : List Oper} {o : Oper} {a : Act} {Q : Exit → Act → World → Prop} (hgd : o.guard = none) (s x : Operand) (t : TypeId)
    (ho : o.op = .call { callee := .builtin .append, args := #[s, x], argTypes := #[t, t] })
    (base : Nat) (e : TypeId) (i : TypeInfo) (z : Value) (size bytes : Nat) (ht : P.underlying t = some (.slice e)) (hi : P.info? e = some i) (hz : i.zero = some z)
    (hsize : i.size = size) (hby : i.bytes = bytes) (hzs : z.cells.size = size) (hsz : 0 < size)
    (v : Value) (n : Nat) (xs : List Value) (hs : a.eval s = v) (hown : w.ownsRow base e size v n xs)
    (ao : Option Addr) (m c : Nat) (news : List Value) (hx : a.eval x = .slice ao m c) (hl : news.length = m * size) (hnone : ao = none → m = 0 ∧ c = 0) (hnews : ∀ ad, ao = some ad → ∀ j u, news[j]? = some u → w.cell? (ad.add j) = some u) (h1 : ∀ u ∈ news, u.oneCell' = true)
    (h63 : n + m ≤ maxLen) (hbytes : (n + m) * bytes ≤ 140737488355328) (hbase : base ≤ w.heap.size)
    (h : ∀ v' w', w'.ownsRow base e size v' (n + m) (xs ++ news) → w.grownBy w' v.ownBlock → wpList P ops Q rest (a.put o.dst v') w') : wpList P ops Q (o :: rest) a w := by
  cases ao with
  | some ad => exact wpList_append_own w hgd s x t ho base e i z size bytes ht hi hz hsize hby hzs hsz v n xs hs hown ad m c news hx hl (hnews ad rfl) h1 h63 hbytes hbase fun v' w' h2 h3 _ => h v' w' h2 h3
  | none =>
    obtain ⟨rfl, rfl⟩ := hnone rfl
    have hn : news = [] := List.eq_nil_of_length_eq_zero (by simpa using hl)
    subst hn
    exact wpList_append_own_none hgd s x t ho base e i size ht hi v n xs hs hown hx (h v w (by simpa using hown) (World.grownBy.refl _ _))
def mkJ : Jb := ⟨-77, 0, 0⟩
/-- items that were lent, a marked one behind them -/
def Lnt (w : World) (base : Nat) (v : Value) (L : List Jb) : Prop := ∃ g cap, v = .slice (some ⟨g, 0, none⟩) L.length cap ∧ JRow w base (.slice (some ⟨g, 0, none⟩) (L.length + 1) cap) (L ++ [mkJ])
theorem Lnt.below {w w' : World} {base : Nat} {v : Value} {L : List Jb} (h : Lnt w base v L) (hb : Below w.heap.size w w') : Lnt w' base v L := by
  obtain ⟨g, cap, e, h⟩ := h
  exact ⟨g, cap, e, h.below hb⟩
theorem Lnt.rws {w : World} {base : Nat} {v : Value} {L : List Jb} (h : Lnt w base v L) : Rws w v 3 jbC L := by
  obtain ⟨g, cap, rfl, h⟩ := h
  obtain ⟨h0, a, c, e, hc⟩ := h.rws
  rw [List.length_append] at h0
  refine ⟨by simp at h0; omega, _, cap, rfl, fun _ => ?_⟩
  obtain ⟨g', o, e2, hg, hcc⟩ := hc (by rw [List.length_append]; simp)
  subst e2
  injection e with e1 e2 e3
  refine ⟨g', o, e1, hg, fun i x hx j u hu => hcc i x ?_ j u hu⟩
  rw [List.getElem?_append_left ((List.getElem?_eq_some_iff.1 hx).1)]
  exact hx
end Go.Proofs.YtapfaaaepnplcaaGreatDoor
set_option maxRecDepth 100000
namespace Go.Proofs.YtapfaaaepnplcaaGreatDoor
open Go.RowKit Go.Great
def bad (j : Jb) : Bool := decide (j.pe < 1) || decide (j.ph < 0)
/-- what New answers -/
def chkJ (L : List Jb) : Int := if 64 < L.length then 4 else if L.any bad then 1 else 0
theorem chkJ_ok {L : List Jb} (h : chkJ L = 0) : L.length ≤ 64 ∧ ∀ j ∈ L, 1 ≤ j.pe ∧ 0 ≤ j.ph := by
  unfold chkJ at h
  split at h
  · cases h
  · next h1 =>
    split at h
    · cases h
    · next h2 =>
      refine ⟨by omega, fun j hj => ?_⟩
      have : bad j = false := by
        cases e : bad j with
        | false => rfl
        | true => exact absurd (List.any_eq_true.2 ⟨j, hj, e⟩) h2
      unfold bad at this
      simp at this
      omega
/-- is a job due in a tick? -/
def dueB (j : Jb) (t : Int) : Bool := decide (j.ph ≤ t) && decide ((t - j.ph) % j.pe = 0)
/-- its first moment from a tick on -/
def fm (j : Jb) (t : Int) : Int := if t ≤ j.ph then j.ph else t + (j.ph - t) % j.pe
theorem neg_mod {a m : Int} (h : (-a) % m = 0 ↔ a % m = 0) : ((-a) % m = 0) = (a % m = 0) := propext h
theorem mod_neg (a m : Int) : (-a) % m = 0 ↔ a % m = 0 := by
  rw [← Int.dvd_iff_emod_eq_zero, ← Int.dvd_iff_emod_eq_zero, Int.dvd_neg]
theorem due_iff (j : Jb) (t : Int) : dueB j t = true ↔ fm j t = t := by
  unfold dueB fm
  rw [Bool.and_eq_true, decide_eq_true_iff, decide_eq_true_iff]
  have e : j.ph - t = -(t - j.ph) := by omega
  split
  · next h =>
    constructor
    · rintro ⟨h1, _⟩; omega
    · intro h1
      refine ⟨by omega, ?_⟩
      rw [show t - j.ph = 0 by omega, Int.zero_emod]
  · next h =>
    rw [e]
    constructor
    · rintro ⟨_, h2⟩
      rw [(mod_neg _ _).2 h2]; omega
    · intro h1
      exact ⟨by omega, (mod_neg _ _).1 (by omega)⟩
theorem fm_ge (j : Jb) (t : Int) (hp : 1 ≤ j.pe) : t ≤ fm j t := by
  unfold fm
  split
  · assumption
  · have := Int.emod_nonneg (j.ph - t) (b := j.pe) (by omega); omega
theorem pred_mod (a m : Int) (hm : 1 ≤ m) : (a - 1) % m = if a % m = 0 then m - 1 else a % m - 1 := by
  have h1 := Int.emod_nonneg a (b := m) (by omega)
  have h2 := Int.emod_lt_of_pos a (b := m) (by omega)
  have h3 : a - 1 = (a % m - 1) + m * (a / m) := by have := Int.emod_add_mul_ediv a m; omega
  rw [h3, Int.add_mul_emod_self_left]
  split
  · next h =>
    rw [h]
    rw [show (0 : Int) - 1 = (m - 1) + m * (-1) by omega, Int.add_mul_emod_self_left]
    exact Int.emod_eq_of_lt (by omega) (by omega)
  · next h => exact Int.emod_eq_of_lt (by omega) (by omega)
theorem fm_next (j : Jb) (t : Int) (hp : 1 ≤ j.pe) : fm j (t + 1) = if dueB j t then t + j.pe else fm j t := by
  by_cases hd : dueB j t = true
  · rw [if_pos hd]
    have h := (due_iff j t).1 hd
    unfold dueB at hd
    rw [Bool.and_eq_true, decide_eq_true_iff, decide_eq_true_iff] at hd
    unfold fm
    rw [if_neg (by omega), show j.ph - (t + 1) = (j.ph - t) - 1 by omega, pred_mod _ _ hp, if_pos (by rw [show j.ph - t = -(t - j.ph) by omega]; exact (mod_neg _ _).2 hd.2)]
    omega
  · rw [if_neg hd]
    have h : ¬ fm j t = t := fun e => hd ((due_iff j t).2 e)
    unfold fm at h ⊢
    by_cases h1 : t ≤ j.ph
    · rw [if_pos h1] at h ⊢
      rw [if_pos (by omega)]
    · rw [if_neg h1] at h ⊢
      rw [if_neg (by omega), show j.ph - (t + 1) = (j.ph - t) - 1 by omega, pred_mod _ _ hp, if_neg (by omega)]
      omega
def j0 : Jb := ⟨1, 0, 0⟩
def jbA (L : List Jb) (k : Nat) : Jb := L.getD k j0
/-- the turn of job k that waits at a tick -/
def tuA (L : List Jb) (t : Int) (k : Nat) : Option Tu := if fm (jbA L k) t ≤ 9223372036854775807 then some ⟨fm (jbA L k) t, (jbA L k).rk, k, (jbA L k).pe⟩ else none
def tuS (L : List Jb) (t : Int) : List Tu := (List.range L.length).filterMap (tuA L t)
/-- behind all whose rank is not greater -/
def ins (L : List Jb) (k : Nat) (l : List Nat) : List Nat := l.takeWhile (fun i => decide ((jbA L i).rk ≤ (jbA L k).rk)) ++ k :: l.dropWhile (fun i => decide ((jbA L i).rk ≤ (jbA L k).rk))
/-- which of the first n jobs are due, in order -/
def dueN (L : List Jb) (t : Int) : Nat → List Nat
  | 0 => []
  | n + 1 => if dueB (jbA L n) t then ins L n (dueN L t n) else dueN L t n
def dueS (L : List Jb) (t : Int) : List Nat := dueN L t L.length
theorem ins_perm (L : List Jb) (k : Nat) (l : List Nat) : (ins L k l).Perm (k :: l) := by
  unfold ins
  refine List.perm_middle.trans (List.Perm.of_eq ?_)
  rw [List.takeWhile_append_dropWhile]
theorem dueN_mem {L : List Jb} {t : Int} : ∀ {n i : Nat}, i ∈ dueN L t n ↔ i < n ∧ dueB (jbA L i) t = true
  | 0, i => by simp [dueN]
  | n + 1, i => by
    unfold dueN
    split
    · next h =>
      rw [(ins_perm L n _).mem_iff, List.mem_cons, dueN_mem]
      constructor
      · rintro (rfl | h1)
        · exact ⟨by omega, h⟩
        · exact ⟨by omega, h1.2⟩
      · intro h1
        by_cases e : i = n
        · exact .inl e
        · exact .inr ⟨by omega, h1.2⟩
    · next h =>
      rw [dueN_mem]
      constructor
      · intro h1; exact ⟨by omega, h1.2⟩
      · intro h1
        refine ⟨?_, h1.2⟩
        by_cases e : i = n
        · subst e; exact absurd h1.2 h
        · omega
/-- ahead: lesser rank, or of the same rank and lesser number -/
def ahd (L : List Jb) (a b : Nat) : Prop := (jbA L a).rk < (jbA L b).rk ∨ ((jbA L a).rk = (jbA L b).rk ∧ a < b)
theorem mem_tw {α : Type} {p : α → Bool} : ∀ {l : List α} {x : α}, x ∈ l.takeWhile p → p x = true
  | y :: l, x, h => by
    rw [List.takeWhile_cons] at h
    split at h
    · rcases List.mem_cons.1 h with rfl | h
      · assumption
      · exact mem_tw h
    · simp at h
theorem ins_sorted {L : List Jb} {k : Nat} {l : List Nat} (hs : l.Pairwise (ahd L)) (hk : ∀ i ∈ l, i < k) : (ins L k l).Pairwise (ahd L) := by
  unfold ins
  have hsp := hs
  rw [← List.takeWhile_append_dropWhile (p := fun i => decide ((jbA L i).rk ≤ (jbA L k).rk)) (l := l), List.pairwise_append] at hsp
  obtain ⟨h1, h2, h3⟩ := hsp
  have hd : ∀ i ∈ l.dropWhile (fun i => decide ((jbA L i).rk ≤ (jbA L k).rk)), (jbA L k).rk < (jbA L i).rk := by
    cases e : l.dropWhile (fun i => decide ((jbA L i).rk ≤ (jbA L k).rk)) with
    | nil => intro i hi; simp at hi
    | cons y r =>
      have hy : ¬ (jbA L y).rk ≤ (jbA L k).rk := by
        have := List.head?_dropWhile_not (fun i => decide ((jbA L i).rk ≤ (jbA L k).rk)) l
        rw [e] at this
        simpa using this
      rw [e, List.pairwise_cons] at h2
      intro i hi
      rcases List.mem_cons.1 hi with rfl | hi
      · omega
      · rcases h2.1 i hi with h | h <;> omega
  rw [List.pairwise_append]
  refine ⟨h1, List.pairwise_cons.2 ⟨fun i hi => .inl (hd i hi), h2⟩, fun a ha b hb => ?_⟩
  have h4 := mem_tw ha
  rw [decide_eq_true_iff] at h4
  have h5 := hk a ((List.takeWhile_sublist _).subset ha)
  rcases List.mem_cons.1 hb with rfl | hb
  · rcases Int.lt_or_eq_of_le h4 with h6 | h6
    · exact .inl h6
    · exact .inr ⟨h6, h5⟩
  · exact h3 a ha b hb
theorem dueN_sorted (L : List Jb) (t : Int) : ∀ n, (dueN L t n).Pairwise (ahd L)
  | 0 => List.Pairwise.nil
  | n + 1 => by
    unfold dueN
    split
    · exact ins_sorted (dueN_sorted L t n) (fun i hi => (dueN_mem.1 hi).1)
    · exact dueN_sorted L t n
theorem dueN_perm (L : List Jb) (t : Int) : ∀ n, (dueN L t n).Perm ((List.range n).filter (fun k => dueB (jbA L k) t))
  | 0 => List.Perm.refl _
  | n + 1 => by
    unfold dueN
    rw [List.range_succ, List.filter_append]
    split
    · next h =>
      refine (ins_perm L n _).trans ?_
      rw [List.filter_cons_of_pos (p := fun k => dueB (jbA L k) t) h, List.filter_nil]
      exact ((dueN_perm L t n).cons n).trans (List.perm_append_comm (l₁ := [n]))
    · next h =>
      rw [List.filter_cons_of_neg (p := fun k => dueB (jbA L k) t) h, List.filter_nil, List.append_nil]
      exact dueN_perm L t n
/-- the turns of a tick, in order -/
def nowS (L : List Jb) (t : Int) : List Tu := (dueS L t).map (fun k => ⟨t, (jbA L k).rk, k, (jbA L k).pe⟩)
/-- the others -/
def latS (L : List Jb) (t : Int) : List Tu := ((List.range L.length).filter (fun k => !dueB (jbA L k) t)).filterMap (tuA L t)
theorem fm_split (p : Nat → Bool) (g : Nat → Option Tu) : ∀ l : List Nat, ((l.filter p).filterMap g ++ (l.filter (fun k => !p k)).filterMap g).Perm (l.filterMap g)
  | [] => List.Perm.refl _
  | k :: l => by
    have ih := fm_split p g l
    cases hp : p k with
    | true =>
      rw [List.filter_cons_of_pos hp, List.filter_cons_of_neg (by simp [hp])]
      cases hg : g k with
      | none => rw [List.filterMap_cons_none hg, List.filterMap_cons_none hg]; exact ih
      | some u => rw [List.filterMap_cons_some hg, List.filterMap_cons_some hg, List.cons_append]; exact ih.cons u
    | false =>
      rw [List.filter_cons_of_neg (by simp [hp]), List.filter_cons_of_pos (by simp [hp])]
      cases hg : g k with
      | none => rw [List.filterMap_cons_none hg, List.filterMap_cons_none hg]; exact ih
      | some u => rw [List.filterMap_cons_some hg, List.filterMap_cons_some hg]; exact List.perm_middle.trans (ih.cons u)
theorem tuA_due {L : List Jb} {t : Int} {k : Nat} (h : dueB (jbA L k) t = true) (ht : t ≤ 9223372036854775807) : tuA L t k = some ⟨t, (jbA L k).rk, k, (jbA L k).pe⟩ := by
  unfold tuA
  rw [(due_iff _ _).1 h, if_pos ht]
theorem fmap_eq {α β : Type} {g : α → Option β} {f : α → β} : ∀ {l : List α}, (∀ x ∈ l, g x = some (f x)) → l.filterMap g = l.map f
  | [], _ => rfl
  | x :: l, h => by
    rw [List.filterMap_cons_some (h x (by simp)), List.map_cons, fmap_eq (fun y hy => h y (List.mem_cons_of_mem _ hy))]
theorem now_lat (L : List Jb) (t : Int) (ht : t ≤ 9223372036854775807) : (nowS L t ++ latS L t).Perm (tuS L t) := by
  refine List.Perm.trans (List.Perm.append_right _ ?_) (fm_split (fun k => dueB (jbA L k) t) (tuA L t) (List.range L.length))
  rw [fmap_eq (f := fun k => ⟨t, (jbA L k).rk, k, (jbA L k).pe⟩) (fun k hk => tuA_due (List.mem_filter.1 hk).2 ht)]
  exact (dueN_perm L t L.length).map _
theorem fmap_congr {α β : Type} {f g : α → Option β} : ∀ {l : List α}, (∀ x ∈ l, f x = g x) → l.filterMap f = l.filterMap g
  | [], _ => rfl
  | x :: l, h => by
    have ih := fmap_congr (f := f) (g := g) (l := l) (fun y hy => h y (List.mem_cons_of_mem _ hy))
    have hx := h x (by simp)
    cases hg : g x with
    | none => rw [List.filterMap_cons_none (hx.trans hg), List.filterMap_cons_none hg, ih]
    | some u => rw [List.filterMap_cons_some (hx.trans hg), List.filterMap_cons_some hg, ih]
theorem nx_now (L : List Jb) (t : Int) (k : Nat) (hp : 1 ≤ (jbA L k).pe) (h : dueB (jbA L k) t = true) : nx_Ex7 ⟨t, (jbA L k).rk, k, (jbA L k).pe⟩ = tuA L (t + 1) k := by
  unfold nx_Ex7 tuA
  rw [fm_next _ _ hp, if_pos h]
theorem jbA_in {L : List Jb} {k : Nat} (h : k < L.length) : jbA L k ∈ L := by
  unfold jbA
  rw [List.getD, List.getElem?_eq_getElem h]
  exact List.getElem_mem h
/-- behind a tick the turns of the next one wait -/
theorem now_next (L : List Jb) (t : Int) (hL : ∀ j ∈ L, 1 ≤ j.pe) : ((nowS L t).filterMap nx_Ex7 ++ latS L t).Perm (tuS L (t + 1)) := by
  refine List.Perm.trans (List.Perm.append ?_ (List.Perm.of_eq ?_)) (fm_split (fun k => dueB (jbA L k) t) (tuA L (t + 1)) (List.range L.length))
  · unfold nowS
    rw [List.filterMap_map]
    refine ((dueN_perm L t L.length).filterMap _).trans (List.Perm.of_eq (fmap_congr fun k hk => ?_))
    obtain ⟨h1, h2⟩ := List.mem_filter.1 hk
    exact nx_now L t k (hL _ (jbA_in (List.mem_range.1 h1))) h2
  · unfold latS
    refine fmap_congr fun k hk => ?_
    obtain ⟨h1, h2⟩ := List.mem_filter.1 hk
    have h2 : dueB (jbA L k) t = false := by simpa using h2
    unfold tuA
    rw [fm_next _ _ (hL _ (jbA_in (List.mem_range.1 h1))), h2]
    rfl
/-- what is asked of the jobs -/
structure JsOk (L : List Jb) : Prop where
  le : L.length ≤ 64
  good : ∀ j ∈ L, 1 ≤ j.pe ∧ 0 ≤ j.ph
  ok : ∀ j ∈ L, JbOk j
theorem JsOk.tu {L : List Jb} (h : JsOk L) {t : Int} (h0 : 0 ≤ t) {k : Nat} {u : Tu} (hk : k < L.length) (e : tuA L t k = some u) : TOk u ∧ t ≤ u.tk := by
  unfold tuA at e
  split at e
  · next h1 =>
    injection e with e
    subst e
    have h2 := fm_ge (jbA L k) t (h.good _ (jbA_in hk)).1
    obtain ⟨a, _, c⟩ := h.ok _ (jbA_in hk)
    have hg := (h.good _ (jbA_in hk)).1
    have := h.le
    exact ⟨⟨by show 0 ≤ fm _ _; omega, h1, c.1, c.2, Int.natCast_nonneg k, by show (k : Int) < 64; omega, hg, a.2⟩, h2⟩
  · cases e
theorem JsOk.dr {L : List Jb} (h : JsOk L) {t : Int} (h0 : 0 ≤ t) (ht : t ≤ 9223372036854775807) : DR t (nowS L t) (latS L t) := by
  have hmem : ∀ k ∈ dueS L t, k < L.length ∧ dueB (jbA L k) t = true := fun k hk => dueN_mem.1 hk
  have hnow : ∀ k ∈ dueS L t, TOk ⟨t, (jbA L k).rk, k, (jbA L k).pe⟩ := fun k hk => (h.tu h0 (hmem k hk).1 (tuA_due (hmem k hk).2 ht)).1
  have hlat : ∀ u ∈ latS L t, TOk u ∧ t < u.tk := fun u hu => by
    obtain ⟨k, hk, e⟩ := List.mem_filterMap.1 hu
    obtain ⟨h1, h2⟩ := List.mem_filter.1 hk
    have h3 := h.tu h0 (List.mem_range.1 h1) e
    refine ⟨h3.1, ?_⟩
    rcases Int.lt_or_eq_of_le h3.2 with h4 | h4
    · exact h4
    · exfalso
      unfold tuA at e
      split at e
      · injection e with e
        rw [← e] at h4
        have := (due_iff (jbA L k) t).2 h4.symm
        rw [this] at h2
        cases h2
      · cases e
  refine ⟨fun u hu => ?_, ?_, fun u hu => (hlat u hu).2, fun u hu => ?_, ?_⟩
  · obtain ⟨k, _, e⟩ := List.mem_map.1 hu
    rw [← e]
  · unfold nowS
    rw [List.pairwise_map]
    refine List.Pairwise.imp_of_mem (R := ahd L) (fun {a b} ha hb hab => ?_) (dueN_sorted L t L.length)
    obtain ⟨_, _, a3, a4, a5, a6, _, _⟩ := hnow a ha
    obtain ⟨_, _, b3, b4, b5, b6, _, _⟩ := hnow b hb
    unfold ky
    simp only at *
    rcases hab with h1 | ⟨h1, h2⟩
    · omega
    · rw [h1]; omega
  · rcases List.mem_append.1 hu with hu | hu
    · obtain ⟨k, hk, e⟩ := List.mem_map.1 hu
      rw [← e]
      exact hnow k hk
    · exact (hlat u hu).1
  · have h1 := (now_lat L t ht).length_eq
    have h2 := List.length_filterMap_le (tuA L t) (List.range L.length)
    rw [List.length_range] at h2
    rw [List.length_append] at h1
    unfold tuS at h1
    have := h.le
    omega
theorem now_nu (L : List Jb) (t : Int) : (nowS L t).map Tu.nu = (dueS L t).map Int.ofNat := by
  unfold nowS
  rw [List.map_map]
  rfl
/-- at tick 0 -/
theorem tuS_zero {L : List Jb} (h : JsOk L) : tuS L 0 = (List.range L.length).map (fun k => ⟨(jbA L k).ph, (jbA L k).rk, k, (jbA L k).pe⟩) := by
  refine fmap_eq fun k hk => ?_
  have h1 := jbA_in (List.mem_range.1 hk)
  have h2 := (h.good _ h1).2
  have h3 := (h.ok _ h1).b0.2
  unfold tuA fm
  rw [if_pos h2, if_pos h3]
end Go.Proofs.YtapfaaaepnplcaaGreatDoor
set_option maxRecDepth 100000
set_option maxHeartbeats 2000000
namespace Go.Proofs.YtapfaaaepnplcaaGreatDoor
open Go.RowKit Go.Great
theorem take_none (w : World) (b P o : Nat) (pre : List Value) (ty : TypeId) (s : List Tu) (T : Int) (h : HQ w b P o pre ty s) (hT : ∀ t ∈ s, t.tk ≠ T) : Calls Tryz.prog 35 #[qP P o, .int .i64 T] w fun e w' => e = .returned (.slice none 0 0) ∧ w' = w := by
  obtain ⟨a, cap, l, hq, hp, hh⟩ := h
  have H1 := hide (holds_no w b P o pre ty a cap l T hq (fun t ht => hT t (hp.subset ht)))
  have cq := hq.cellQ
  generalize l.length = n at *
  clear hq hp hh hT
  go_enter Tryz.func35, Tryz.ntmps35
  go_wp2_with (go_at_call 69; refine H1.out.mono ?_; rintro e w3 ⟨rfl, hw3⟩; obtain rfl := hw3.symm)
  go_ret
  exact ⟨rfl, rfl⟩
/-- the turns of tick T are taken out, whether there are any or not -/
theorem take_all (w : World) (b P o : Nat) (pre : List Value) (ty : TypeId) (d r : List Tu) (T : Int) (h : HQ w b P o pre ty (d ++ r)) (hty : 3 ≠ ty) (hD : DR T d r) : Calls Tryz.prog 35 #[qP P o, .int .i64 T] w (TEnd w b P o pre ty d r) := by
  by_cases h0 : 0 < d.length
  · exact take_any w b P o pre ty d r T h hty hD h0
  · have : d = [] := List.eq_nil_of_length_eq_zero (by omega)
    subst this
    rw [List.nil_append] at h
    refine (take_none w b P o pre ty r T h (fun t ht => by have := hD.r0 t ht; omega)).mono ?_
    rintro e w1 ⟨rfl, rfl⟩
    exact ⟨_, rfl, IRow.nil _ _, h, World.grownBy.refl _ _⟩
theorem wrong_any (x : Jb) (w : World) : Calls Tryz.prog 145 #[.agg #[.int .i64 x.pe, .int .i64 x.ph, .int .i64 x.rk]] w fun e w' => e = .returned (.bool (bad x)) ∧ Below w.heap.size w w' := by
  obtain ⟨a, b, c⟩ := x
  unfold bad
  simp only
  by_cases h : a < 1
  · rw [decide_eq_true h, Bool.true_or]
    go_enter Tryz.func145, Tryz.ntmps145
    go_wp2_with fail
    go_ret
    exact ⟨rfl, below_alloc _ _⟩
  · rw [decide_eq_false h, Bool.false_or]
    go_enter Tryz.func145, Tryz.ntmps145
    go_wp2_with fail
    go_ret
    exact ⟨rfl, below_alloc _ _⟩
theorem jb_at {w : World} {L : List Jb} {na : Option Addr} {np : Nat} (h : Rws w (.slice na L.length np) 3 jbC L) (i : Nat) (hi : i < L.length) : ∃ g o, na = some ⟨g, o, none⟩ ∧ g < w.heap.size ∧ ∀ w', Below w.heap.size w w' → w'.cell? ⟨g, o + i * 3, none⟩ = some (.int .i64 (jbA L i).pe) ∧ w'.cell? ⟨g, o + i * 3 + 1, none⟩ = some (.int .i64 (jbA L i).ph) ∧ w'.cell? ⟨g, o + i * 3 + 2, none⟩ = some (.int .i64 (jbA L i).rk) := by
  obtain ⟨g, o, cap, x, e, hg, hx, hc⟩ := h.get i hi
  injection e with e _ _
  have ex : jbA L i = x := by unfold jbA; rw [List.getD, hx]; rfl
  rw [ex]
  exact ⟨g, o, e, hg, fun w' hb => ⟨hc w' hb 0 _ rfl, hc w' hb 1 _ rfl, hc w' hb 2 _ rfl⟩⟩
theorem index_any_Ex9 (L : List Jb) (v : Value) (w : World) (hR : Rws w v 3 jbC L) (hl : L.length ≤ 64) : Calls Tryz.prog 241 #[v, .func (.func 145) #[] #[]] w fun e w' => (∃ x : Int, e = .returned (.int .i64 x) ∧ decide (0 ≤ x) = L.any bad) ∧ Below w.heap.size w w' := by
  have HR := hide hR
  obtain ⟨_, na, np, rfl, _⟩ := hR
  obtain ⟨n, hn⟩ : ∃ n, Hid (L.length = n) := ⟨_, hide rfl⟩
  rw [hn.out] at hl ⊢
  go_enter Tryz.func241, Tryz.ntmps241
  go_wp2_with fail
  go_loopw [8] (fun v8 wr => ∃ i : Nat, v8 = .int .i64 (i : Int) ∧ i ≤ n ∧ Hid (Below w.heap.size w wr) ∧ Hid (∀ j : Nat, j < i → bad (jbA L j) = false)) (fun v8 _ => n - (intOf v8).toNat)
  case atStart => exact ⟨0, rfl, by omega, hide (Below.refl _ _), hide (fun j hj => by omega)⟩
  case round =>
    obtain ⟨i, rfl, hi, Hb, HB⟩ := hrel
    by_cases hin : i < n
    · obtain ⟨g, o, ena, hg, hc⟩ := jb_at HR.out i (by rw [hn.out]; exact hin)
      subst ena
      obtain ⟨c0, c1, c2⟩ := hc wr Hb.out
      have WR := hide (wrong_any (jbA L i) wr)
      obtain ⟨bb, hbb⟩ : ∃ bb, Hid (bad (jbA L i) = bb) := ⟨_, hide rfl⟩
      rw [hbb.out] at WR
      have HT : Hid (bb = true → L.any bad = true) := hide (fun e => List.any_eq_true.2 ⟨jbA L i, jbA_in (by rw [hn.out]; exact hin), by rw [hbb.out, e]⟩)
      generalize (jbA L i).pe = x0 at *
      generalize (jbA L i).ph = x1 at *
      generalize (jbA L i).rk = x2 at *
      clear hc
      cases bb with
      | true =>
        go_wp2_with fail
        refine WR.out.mono ?_
        rintro e w2 ⟨rfl, hb2⟩
        have HbN := hide (below_next Hb.out (Nat.le_refl _) hb2)
        clear hb2 WR HB
        go_wp2_with fail
        go_ret
        refine ⟨⟨_, rfl, ?_⟩, HbN.out⟩
        rw [HT.out (by trivial)]
        simp
      | false =>
        go_wp2_with fail
        refine WR.out.mono ?_
        rintro e w2 ⟨rfl, hb2⟩
        have HbN := hide (below_next Hb.out (Nat.le_refl _) hb2)
        clear hb2 WR HT
        go_wp2_with fail
        go_roundw
        case rel => exact ⟨i + 1, by simp, by omega, HbN, hide (fun j hj => by
          by_cases e : j = i
          · rw [e]; exact hbb.out
          · exact HB.out j (by omega))⟩
        case measure => simp [intOf]; omega
    · have HE : Hid (L.any bad = false) := hide (by
        rw [List.any_eq_false]
        intro x hx
        obtain ⟨j, hj, e⟩ := List.getElem_of_mem hx
        have := HB.out j (by rw [hn.out] at hj; omega)
        unfold jbA at this
        rw [List.getD, List.getElem?_eq_getElem hj] at this
        simpa [e] using this)
      clear HB
      go_wp2_with fail
      go_ret
      exact ⟨⟨-1, rfl, by rw [HE.out]; rfl⟩, Hb.out⟩
theorem contains_any (L : List Jb) (v : Value) (w : World) (hR : Rws w v 3 jbC L) (hl : L.length ≤ 64) : Calls Tryz.prog 144 #[v, .func (.func 145) #[] #[]] w fun e w' => e = .returned (.bool (L.any bad)) ∧ Below w.heap.size w w' := by
  have IX := hide (index_any_Ex9 L v w hR hl)
  clear hR hl
  go_enter Tryz.func144, Tryz.ntmps144
  go_wp2_with fail
  refine IX.out.mono ?_
  rintro e w2 ⟨⟨x, rfl, hx⟩, hb2⟩
  have HX := hide hx
  have Hb := hide hb2
  clear hx hb2 IX
  go_wp2_with fail
  go_ret
  exact ⟨by rw [← HX.out]; rfl, Hb.out⟩
def tu0 (L : List Jb) (k : Nat) : Tu := ⟨(jbA L k).ph, (jbA L k).rk, k, (jbA L k).pe⟩
theorem JsOk.tu0 {L : List Jb} (h : JsOk L) {k : Nat} (hk : k < L.length) : TOk (tu0 L k) := by
  refine (h.tu (Int.le_refl 0) hk ?_).1
  have h1 := jbA_in hk
  have h2 := (h.good _ h1).2
  have h3 := (h.ok _ h1).b0.2
  unfold tuA fm
  rw [if_pos h2, if_pos h3]
  rfl
theorem range_perm (L : List Jb) (i : Nat) : ((tu0 L i) :: (List.range i).map (tu0 L)).Perm ((List.range (i + 1)).map (tu0 L)) := by
  rw [List.range_succ, List.map_append]
  exact List.perm_append_comm (l₁ := [tu0 L i])
theorem waiting_any (L : List Jb) (v : Value) (w : World) (hR : Rws w v 3 jbC L) (hL : JsOk L) : Calls Tryz.prog 146 #[v] w fun e w' => ∃ a cap l, e = .returned (slQ a l.length cap) ∧ w'.ownsRow w.heap.size 183 4 (slQ a l.length cap) l.length (tusC l) ∧ (∀ t ∈ l, TOk t) ∧ l.Perm (tuS L 0) ∧ Hp l l.length ∧ Below w.heap.size w w' := by
  have HR := hide hR
  have HL := hide hL
  obtain ⟨_, na, np, rfl, _⟩ := hR
  have hl := hL.le
  obtain ⟨n, hn⟩ : ∃ n, Hid (L.length = n) := ⟨_, hide rfl⟩
  have HQ0 : Hid (HQ (w.alloc (.cells #[.slice none 0 0] 122)) w.heap.size w.heap.size 0 [] 122 ((List.range 0).map (tu0 L))) := hide ⟨none, 0, [], ⟨rfl, by simp, Blk.new _ _ _, World.ownsRow_nil _ _ _ _, fun t ht => by simp at ht, by decide⟩, List.Perm.refl _, fun k _ hk => by simp at hk⟩
  have HK0 : Hid (KB w.heap.size w.heap.size w (w.alloc (.cells #[.slice none 0 0] 122))) := hide (KB.of_below (below_alloc _ _) (Nat.le_refl _))
  rw [hn.out] at hl ⊢
  clear hL
  go_enter Tryz.func146, Tryz.ntmps146
  go_upto_region 2 with fail
  generalize w.alloc (.cells #[.slice none 0 0] 122) = w1 at *
  go_wp2_with fail
  go_loopw [8] (fun v8 wr => ∃ i : Nat, v8 = .int .i64 (i : Int) ∧ i ≤ n ∧ Hid (HQ wr w.heap.size w.heap.size 0 [] 122 ((List.range i).map (tu0 L))) ∧ Hid (KB w.heap.size w.heap.size w wr)) (fun v8 _ => n - (intOf v8).toNat)
  case atStart => exact ⟨0, rfl, by omega, HQ0, HK0⟩
  case round =>
    clear HQ0 HK0
    obtain ⟨i, rfl, hi, HQr, HK⟩ := hrel
    by_cases hin : i < n
    · have Hb : Hid (Below w.heap.size w wr) := hide (HK.out.below (Nat.le_refl _) (Nat.le_refl _))
      obtain ⟨g, o, ena, hg, hc⟩ := jb_at HR.out i (by rw [hn.out]; exact hin)
      subst ena
      obtain ⟨c0, c1, c2⟩ := hc wr Hb.out
      have HX : Hid (jC (jbA L i).pe (jbA L i).ph (jbA L i).rk = jC (jbA L i).pe (jbA L i).ph (jbA L i).rk) := hide rfl
      have PU := hide (hpush_any (wr.alloc (.cells (jC (jbA L i).pe (jbA L i).ph (jbA L i).rk) 92)) w.heap.size w.heap.size 0 [] 122 ((List.range i).map (tu0 L)) (tu0 L i) (HQr.out.after (below_alloc _ _)) (by rw [List.length_map, List.length_range]; omega) (HL.out.tu0 (by rw [hn.out]; exact hin)))
      unfold tu0 at PU
      have HPm := hide (range_perm L i)
      unfold tu0 at HPm
      have HKa : Hid (KB w.heap.size w.heap.size w (wr.alloc (.cells (jC (jbA L i).pe (jbA L i).ph (jbA L i).rk) 92))) := hide (HK.out.trans (KB.of_below (below_alloc _ _) HK.out.size))
      generalize (jbA L i).pe = x0 at *
      generalize (jbA L i).ph = x1 at *
      generalize (jbA L i).rk = x2 at *
      clear hc HX HQr HK
      go_wp2_with fail
      refine PU.out.mono ?_
      rintro e w3 ⟨rfl, hq3, hb3⟩
      have HQ3 := hide (hq3.perm HPm.out)
      have HK3 := hide (HKa.out.trans hb3)
      clear hq3 hb3 PU HPm HKa Hb
      go_wp2_with fail
      go_roundw
      case rel => exact ⟨i + 1, by simp, by omega, HQ3, HK3⟩
      case measure => simp [intOf]; omega
    · obtain ⟨a, cap, l, hq, hp, hh⟩ := HQr.out
      have e1 : i = n := by omega
      have HF : Hid (∃ a2 cap2 l2, (.returned (.slice a l.length cap) : Ending) = .returned (slQ a2 l2.length cap2) ∧ wr.ownsRow w.heap.size 183 4 (slQ a2 l2.length cap2) l2.length (tusC l2) ∧ (∀ t ∈ l2, TOk t) ∧ l2.Perm (tuS L 0) ∧ Hp l2 l2.length ∧ Below w.heap.size w wr) := hide ⟨a, cap, l, rfl, hq.own, hq.ok, by rw [tuS_zero HL.out, hn.out, ← e1]; exact hp, hh, HK.out.below (Nat.le_refl _) (Nat.le_refl _)⟩
      have cq := hq.cellQ
      generalize l.length = ln at *
      clear hq hp hh HQr HK e1
      go_wp2_with fail
      go_ret
      exact HF.out
end Go.Proofs.YtapfaaaepnplcaaGreatDoor
set_option maxRecDepth 100000
set_option maxHeartbeats 2000000
namespace Go.Proofs.YtapfaaaepnplcaaGreatDoor
open Go.RowKit Go.Great
/-- a plan of jobs at a tick, in block P; its turns from b on -/
def PlanW (w : World) (b P : Nat) (L : List Jb) (t : Int) : Prop := HQ w b P 1 [.int .i64 t] 124 (tuS L t)
abbrev pP (P : Nat) : Value := .pointer (some ⟨P, 0, none⟩)
theorem PlanW.blk {w : World} {b P : Nat} {L : List Jb} {t : Int} (h : PlanW w b P L t) : ∃ a n cap, Blk w P #[.int .i64 t, .slice a n cap] 124 := by
  obtain ⟨a, cap, hB⟩ := HQ.blk h
  exact ⟨a, _, cap, hB⟩
theorem PlanW.lt {w : World} {b P : Nat} {L : List Jb} {t : Int} (h : PlanW w b P L t) : P < w.heap.size := by
  obtain ⟨_, _, _, h⟩ := h.blk
  exact h.lt
theorem PlanW.after {w w' : World} {b P : Nat} {L : List Jb} {t : Int} (h : PlanW w b P L t) (hb : Below w.heap.size w w') : PlanW w' b P L t := HQ.after h hb
/-- what New leaves -/
def NEnd (w : World) (L : List Jb) (e : Ending) (w' : World) : Prop := Below w.heap.size w w' ∧ ((chkJ L ≠ 0 ∧ e = .returned (.tuple #[.pointer none, .int .i64 (chkJ L)])) ∨ (chkJ L = 0 ∧ ∃ P, e = .returned (.tuple #[pP P, .int .i64 0]) ∧ w.heap.size ≤ P ∧ PlanW w' w.heap.size P L 0))
theorem new_any_Exa (L : List Jb) (v : Value) (w : World) (hR : Rws w v 3 jbC L) (hok : ∀ j ∈ L, JbOk j) : Calls Tryz.prog 63 #[v] w (NEnd w L) := by
  have CO := hide (contains_any L v w hR)
  have WA := hide (fun W (hb : Below w.heap.size w W) (hL : JsOk L) => waiting_any L v W (hR.below hb) hL)
  have HRl := hR.1
  obtain ⟨_, na, np, rfl, _⟩ := hR
  obtain ⟨n, hn⟩ : ∃ n, Hid (L.length = n) := ⟨_, hide rfl⟩
  rw [hn.out] at CO WA HRl ⊢
  unfold maxLen at HRl
  by_cases h64 : 64 < n
  · have HC : Hid (chkJ L = 4) := hide (by unfold chkJ; rw [if_pos (by rw [hn.out]; exact h64)])
    have h64' : decide ((64 : Int) < (n : Int)) = true := by simp; omega
    clear CO WA
    go_enter Tryz.func63, Tryz.ntmps63
    go_wp2_with fail
    go_ret2
    exact ⟨Below.refl _ _, .inl ⟨by rw [HC.out]; decide, by rw [HC.out]; rfl⟩⟩
  · have h64' : decide ((64 : Int) < (n : Int)) = false := by simp; omega
    have CO2 := hide (CO.out (by omega))
    have HC : Hid (chkJ L = if L.any bad then 1 else 0) := hide (by unfold chkJ; rw [if_neg (by rw [hn.out]; exact h64)])
    have HL : Hid (L.any bad = false → JsOk L) := hide (fun e => by
      have h0 : chkJ L = 0 := by rw [HC.out, e]; rfl
      obtain ⟨h1, h2⟩ := chkJ_ok h0
      exact ⟨h1, h2, hok⟩)
    clear CO hok
    obtain ⟨bb, hbb⟩ : ∃ bb, Hid (L.any bad = bb) := ⟨_, hide rfl⟩
    rw [hbb.out] at CO2 HC HL
    cases bb with
    | true =>
      clear WA HL
      go_enter Tryz.func63, Tryz.ntmps63
      go_wp2_with fail
      refine CO2.out.mono ?_
      rintro e w2 ⟨rfl, hb2⟩
      have Hb := hide hb2
      clear hb2 CO2
      go_wp2_with fail
      go_ret2
      exact ⟨Hb.out, .inl ⟨by rw [HC.out]; decide, by rw [HC.out]; rfl⟩⟩
    | false =>
      have HJ := hide (HL.out rfl)
      clear HL
      go_enter Tryz.func63, Tryz.ntmps63
      go_wp2_with fail
      refine CO2.out.mono ?_
      rintro e w2 ⟨rfl, hb2⟩
      have Hb := hide hb2
      clear hb2 CO2
      go_wp2_with fail
      refine (WA.out _ Hb.out HJ.out).mono ?_
      rintro e w3 ⟨a, cap, l, rfl, hO, hoks, hp, hh, hb3⟩
      have HO := hide hO
      have Hoks := hide hoks
      have HPp := hide hp
      have HHp := hide hh
      have Hb3 := hide (below_next Hb.out (Nat.le_refl _) hb3)
      have hs2 := hide Hb.out.size
      obtain ⟨ln, hln⟩ : ∃ ln, Hid (l.length = ln) := ⟨_, hide rfl⟩
      rw [hln.out] at HO
      rw [hln.out]
      clear hO hoks hp hh hb3 WA
      go_wp2_with fail
      go_ret2
      have hown : (w3.alloc (.cells #[.int .i64 0, slQ a ln cap] 124)).ownsRow w.heap.size 183 4 (slQ a ln cap) ln (tusC l) := by
        have h1 := World.ownsRow.kept HO.out (grown_below (below_alloc w3 (.cells #[.int .i64 0, slQ a ln cap] 124)) none) (by cases a <;> simp [Value.ownBlock])
        refine ⟨h1.1, ?_⟩
        rcases h1.2 with q | ⟨g, c, cur, q1, q2, q3⟩
        · exact .inl q
        · exact .inr ⟨g, c, cur, q1, Nat.le_trans hs2.out q2, q3⟩
      refine ⟨below_next Hb3.out (Nat.le_refl _) (below_alloc _ _), .inr ⟨by rw [HC.out]; rfl, w3.heap.size, rfl, Hb3.out.size, a, cap, l, ⟨rfl, ?_, ?_, ?_, Hoks.out, by decide⟩, HPp.out, HHp.out⟩⟩
      · rw [size_alloc]; have := Hb3.out.size; omega
      · rw [hln.out]; exact Blk.new _ _ _
      · rw [hln.out]; exact hown
theorem cell0 (P : Nat) (w : World) (t : Int) (a : Option Addr) (n cap : Nat) (h : Blk w P #[.int .i64 t, .slice a n cap] 124) : w.cell? ⟨P, 0, none⟩ = some (.int .i64 t) := h.cell 0 rfl
theorem now_any (w : World) (b P : Nat) (L : List Jb) (t : Int) (h : PlanW w b P L t) : Calls Tryz.prog 117 #[pP P] w fun e w' => e = .returned (.int .i64 t) ∧ w' = w := by
  obtain ⟨a, n, cap, hB⟩ := h.blk
  have c0 := cell0 _ _ _ _ _ _ hB
  clear h hB
  go_enter Tryz.func117, Tryz.ntmps117
  go_wp2_with fail
  go_ret
  exact ⟨rfl, rfl⟩
theorem now_nil (w : World) : Calls Tryz.prog 117 #[.pointer none] w fun e w' => e = .returned (.int .i64 0) ∧ w' = w := by
  go_enter Tryz.func117, Tryz.ntmps117
  go_wp2_with fail
  go_ret
  exact ⟨rfl, rfl⟩
theorem due_nil (w : World) : Calls Tryz.prog 11 #[.pointer none] w fun e w' => e = .returned (.slice none 0 0) ∧ w' = w := by
  go_enter Tryz.func11, Tryz.ntmps11
  go_wp2_with fail
  go_ret
  exact ⟨rfl, rfl⟩
theorem HQ.tick {w : World} {b P : Nat} {t u : Int} {s : List Tu} (h : HQ w b P 1 [.int .i64 t] 124 s) : HQ (w.setCell ⟨P, 0, none⟩ (.int .i64 u)) b P 1 [.int .i64 u] 124 s := by
  obtain ⟨a, cap, l, h1, h2, h3⟩ := h
  exact ⟨a, cap, l, ⟨rfl, by rw [setCell_size]; exact h1.bs, h1.box.set 0 _, ownsRow_set_other h1.own h1.box (by decide) 0 _, h1.ok, h1.ht⟩, h2, h3⟩
/-- what Due leaves: the numbers in order, the plan at the next tick; else only new memory -/
def DuE (w : World) (b P : Nat) (L : List Jb) (t : Int) (e : Ending) (w' : World) : Prop := ∃ v, e = .returned v ∧ IRow w' w.heap.size v ((dueS L t).map Int.ofNat) ∧ PlanW w' b P L (t + 1) ∧ w.grownBy w' (some P)
theorem due_any (w : World) (b P : Nat) (L : List Jb) (t : Int) (h : PlanW w b P L t) (hL : JsOk L) (h0 : 0 ≤ t) (ht : t < 9223372036854775807) : Calls Tryz.prog 11 #[pP P] w (DuE w b P L t) := by
  obtain ⟨a, n, cap, hB⟩ := h.blk
  have c0 := cell0 _ _ _ _ _ _ hB
  have HT : Hid (∀ k, Calls Tryz.prog 35 #[qP P 1, .int .i64 t] (w.drewN k) (TEnd (w.drewN k) b P 1 [.int .i64 t] 124 (nowS L t) (latS L t))) := hide (fun k => take_all _ b P 1 _ _ _ _ t ((HQ.after h (below_drewN (Below.refl _ _) k)).perm (now_lat L t (by omega)).symm) (by decide) (hL.dr h0 (by omega)))
  have HN := hide (now_next L t (fun j hj => (hL.good j hj).1))
  have hlt := hide h.lt
  clear h hB
  go_enter Tryz.func11, Tryz.ntmps11
  go_upto_region 3 with fail
  refine reg_two 7 _ _ rfl rfl rfl rfl (by kernel_rfl) (by kernel_rfl) (by kernel_rfl) (by kernel_rfl) ?_
  simp only [List.take_succ_cons, List.take_zero]
  repeat (quiet_step (fail))
  refine wpQuiet_nil ?_
  intro k
  go_simp
  refine (HT.out k).mono ?_
  rintro e w2 ⟨v, rfl, hr2, hq2, hg2⟩
  have HR2 : Hid (IRow w2 w.heap.size v ((nowS L t).map Tu.nu)) := hide hr2
  have HQ2 := hide (hq2.perm HN.out)
  have HG2 : Hid (w.grownBy w2 (some P)) := hide ⟨hg2.os, hg2.tape, hg2.output, hg2.size, hg2.block⟩
  obtain ⟨a2, cap2, hB2⟩ := HQ2.out.blk
  have d0 : w2.cell? ⟨P, 0, none⟩ = some (.int .i64 t) := hB2.cell 0 rfl
  have f0 := hB2.frozen 0
  have HB2 := hide hB2
  obtain ⟨va, vn, vc, hv⟩ : ∃ va vn vc, v = .slice va vn vc := by
    obtain ⟨va, vc, e⟩ := hr2.shape
    exact ⟨va, _, vc, e⟩
  subst hv
  clear hr2 hq2 hg2 hB2 HT c0
  go_wp2_with fail
  go_ret
  have h5 := HR2.out
  rw [now_nu] at h5
  exact ⟨_, rfl, World.ownsRow.kept h5 (grown_set w2 P 0 _) (.inr (blk_apart h5 HB2.out (by decide))), HQ2.out.tick, grown_more HG2.out (grown_set w2 P 0 _)⟩
end Go.Proofs.YtapfaaaepnplcaaGreatDoor
