/- Lists of jobs: as they came in, of the call's own, lent. -/
import Derived.Test.YtcjahdgppnmdkaaEx8
import Derived.Laws.AppendOwnNone
import Derived.Laws.Cover3
set_option maxRecDepth 100000
namespace Go.Proofs.Ytcjahdgppnmdkaa
open Go.RowKit Go.Great Go.Maps Go.Deep Go.WideShapes Go.ChangeShapes

/-- a job: its period, phase and rank -/
structure Jb where
  pe : Int
  ph : Int
  rk : Int
def jbC (x : Jb) : List Value := [.int .i64 x.pe, .int .i64 x.ph, .int .i64 x.rk]
abbrev jC (a b c : Int) : Array Value := #[.int .i64 a, .int .i64 b, .int .i64 c]
/-- its numbers are ints -/
structure JbOk (x : Jb) : Prop where
  a0 : -9223372036854775808 ≤ x.pe ∧ x.pe ≤ 9223372036854775807
  b0 : -9223372036854775808 ≤ x.ph ∧ x.ph ≤ 9223372036854775807
  c0 : -9223372036854775808 ≤ x.rk ∧ x.rk ≤ 9223372036854775807
theorem info_jb : (Try.prog.info? 80).map (fun i => (i.zero, i.size, i.bytes)) = some (some (.agg #[.int .i64 0, .int .i64 0, .int .i64 0]), 3, 24) := by kernel_rfl
theorem new_cell3 (w : World) (g : Nat) (hg : g = w.heap.size) (x0 x1 x2 : Value) (t : TypeId) : ∀ j u, [x0, x1, x2][j]? = some u → (w.alloc (.cells #[x0, x1, x2] t)).cell? ((⟨g, 0, none⟩ : Addr).add j) = some u := by
  intro j u h
  subst hg
  have hB := Blk.new w #[x0, x1, x2] t
  have hc := hB.cell j (v := u) (by simpa using h)
  rw [add_plain', Nat.zero_add]
  exact hc
def jbsC (L : List Jb) : List Value := L.flatMap jbC
theorem jbsC_len (L : List Jb) : (jbsC L).length = L.length * 3 := by
  induction L with
  | nil => rfl
  | cons x r ih => rw [jbsC, List.flatMap_cons, List.length_append, ← jbsC, ih, List.length_cons, show (jbC x).length = 3 from rfl]; omega
theorem jbsC_app (L M : List Jb) : jbsC (L ++ M) = jbsC L ++ jbsC M := by simp [jbsC]
theorem jbsC_get {x : Jb} {j : Nat} {u : Value} (hj : (jbC x)[j]? = some u) : ∀ {L : List Jb} {i : Nat}, L[i]? = some x → (jbsC L)[i * 3 + j]? = some u
  | [], i, h => by simp at h
  | y :: r, 0, h => by
    simp at h
    subst h
    rw [jbsC, List.flatMap_cons, Nat.zero_mul, Nat.zero_add, List.getElem?_append_left ((List.getElem?_eq_some_iff.1 hj).1)]
    exact hj
  | y :: r, i + 1, h => by
    have hl : (jbC y).length = 3 := rfl
    rw [jbsC, List.flatMap_cons, List.getElem?_append_right (by rw [hl]; omega), hl, show (i + 1) * 3 + j - 3 = i * 3 + j by omega]
    exact jbsC_get hj (by simpa using h)
theorem jbsC_one (L : List Jb) : ∀ u ∈ jbsC L, u.oneCell' = true := by
  intro u hu
  unfold jbsC at hu
  rw [List.mem_flatMap] at hu
  obtain ⟨x, _, hx⟩ := hu
  simp [jbC] at hx
  rcases hx with rfl | rfl | rfl <;> rfl
/-- a list of items of the call's own -/
def JRow (w : World) (base : Nat) (v : Value) (L : List Jb) : Prop := w.ownsRow base 80 3 v L.length (jbsC L)
theorem JRow.nil (w : World) (base : Nat) : JRow w base (.slice none 0 0) [] := World.ownsRow_nil _ _ _ _
theorem JRow.grown {w w' : World} {base : Nat} {v : Value} {L : List Jb} {row : Option Nat} (h : JRow w base v L) (g : w.grownBy w' row) (hne : v.ownBlock = none ∨ v.ownBlock ≠ row) : JRow w' base v L := World.ownsRow.kept h g hne
theorem JRow.below {w w' : World} {base : Nat} {v : Value} {L : List Jb} (h : JRow w base v L) (hb : Below w.heap.size w w') : JRow w' base v L := h.grown (grown_below hb none) (by cases v.ownBlock <;> simp)
theorem JRow.alloc {w : World} {base : Nat} {v : Value} {L : List Jb} (h : JRow w base v L) (o : Obj) : JRow (w.alloc o) base v L := h.below (below_alloc w o)
theorem JRow.lower {w : World} {base base' : Nat} {v : Value} {L : List Jb} (h : JRow w base v L) (hb : base' ≤ base) : JRow w base' v L := by
  refine ⟨h.1, ?_⟩
  rcases h.2 with q | ⟨g2, cap2, cur2, q1, q2, q3⟩
  · exact .inl q
  · exact .inr ⟨g2, cap2, cur2, q1, Nat.le_trans hb q2, q3⟩
theorem JRow.shape {w : World} {base : Nat} {v : Value} {L : List Jb} (h : JRow w base v L) : ∃ a cap, v = .slice a L.length cap := by
  rcases h.2 with ⟨h1, h2⟩ | ⟨g, cap, cur, h1, _⟩
  · exact ⟨none, 0, by rw [h1, h2]⟩
  · exact ⟨_, cap, h1⟩
theorem JRow.noblk {w : World} {base : Nat} {v : Value} {L : List Jb} {g : Nat} {cs : Array Value} {t : TypeId} (h : JRow w base v L) (hG : Blk w g cs t) (hne : 80 ≠ t) : v.ownBlock = none ∨ v.ownBlock ≠ some g := Or.inr (blk_apart h hG hne)
theorem JRow.rws {w : World} {base : Nat} {v : Value} {L : List Jb} (h : JRow w base v L) : Rws w v 3 jbC L := by
  have h0 := h
  rcases h.2 with ⟨h1, h2⟩ | ⟨g, cap, cur, h1, hb, hh, hnc, hcm, _⟩
  · have : L = [] := List.eq_nil_of_length_eq_zero h2
    subst this h1
    exact ⟨by simp, none, 0, rfl, fun h => absurd h (by simp)⟩
  · subst h1
    refine ⟨Nat.le_trans hnc hcm, _, cap, rfl, fun _ => ⟨g, 0, rfl, lt_of_block hh, fun i x hx j u hu => ?_⟩⟩
    have := World.ownsRow.cells h0 (g := g) rfl (i * 3 + j) u (jbsC_get hu hx)
    rw [add_plain'] at this
    rw [← this]
    congr 2
    omega
/-- a list that came in, its cells one behind the other -/
theorem Rws.cellsJ {w : World} {L : List Jb} {g o cap : Nat} (h : Rws w (.slice (some ⟨g, o, none⟩) L.length cap) 3 jbC L) : ∀ j u, (jbsC L)[j]? = some u → w.cell? ((⟨g, o, none⟩ : Addr).add j) = some u := by
  obtain ⟨_, a, cp, e, hc⟩ := h
  intro j u hu
  have hj := (List.getElem?_eq_some_iff.1 hu).1
  rw [jbsC_len] at hj
  have hl : 0 < L.length := by omega
  obtain ⟨g', o', e2, hg, hcc⟩ := hc hl
  injection e with e _ _
  rw [e2] at e
  injection e with e
  injection e with e3 e4
  subst e3 e4
  have hi : j / 3 < L.length := by omega
  have hx : L[j / 3]? = some L[j / 3] := by simp [hi]
  have hj4 : j % 3 < 3 := Nat.mod_lt _ (by omega)
  obtain ⟨v, hv⟩ : ∃ v, (jbC L[j / 3])[j % 3]? = some v := ⟨(jbC L[j / 3])[j % 3]'(by show _ < 3; exact hj4), by simp⟩
  have h1 := jbsC_get hv hx
  rw [show j / 3 * 3 + j % 3 = j by omega, hu] at h1
  injection h1 with h1
  subst h1
  rw [add_plain', show o + j = o + j / 3 * 3 + j % 3 by omega]
  exact hcc _ _ hx _ _ hv
theorem Rws.allJ {w : World} {L : List Jb} {a : Option Addr} {cap : Nat} (h : Rws w (.slice a L.length cap) 3 jbC L) : (a = none → L = []) ∧ ∀ ad, a = some ad → ∀ W, Below w.heap.size w W → ∀ j u, (jbsC L)[j]? = some u → W.cell? (ad.add j) = some u := by
  have h0 := h
  obtain ⟨_, a', cap', e, hcc⟩ := h
  injection e with e1 e2 e3
  subst e1 e3
  refine ⟨fun ha => ?_, fun ad ha W hb j u hu => ?_⟩
  · refine List.eq_nil_of_length_eq_zero (Decidable.byContradiction fun hn => ?_)
    obtain ⟨g, o, e, _⟩ := hcc (by omega)
    rw [ha] at e
    cases e
  · have hj := (List.getElem?_eq_some_iff.1 hu).1
    rw [jbsC_len] at hj
    obtain ⟨g, o, e, _⟩ := hcc (by omega)
    rw [e] at ha h0
    injection ha with ha
    rw [← ha]
    exact (h0.below hb).cellsJ j u hu
theorem one_Jb {H : Type} {enc : TypeId × Value → H} {W : World} (n : Nat) (cs : List Value) (y : DataW H × List MemPlace) (h : DataW.trod enc Try.prog W 0 (fun _ => true) true n 80 cs = some y) (hl : cs.length = 3) : ∃ x, JbOk x ∧ cs = jbC x := by
  obtain ⟨c0, h0⟩ := list_of hl 0 (by omega)
  obtain ⟨c1, h1⟩ := list_of hl 1 (by omega)
  obtain ⟨c2, h2⟩ := list_of hl 2 (by omega)
  obtain ⟨a, e1, ha⟩ := int_field Try.underlying80 h 0 0 (by kernel_rfl) h0
  obtain ⟨b, e2, hb⟩ := int_field Try.underlying80 h 1 1 (by kernel_rfl) h1
  obtain ⟨c, e3, hc⟩ := int_field Try.underlying80 h 2 2 (by kernel_rfl) h2
  subst e1 e2 e3
  refine ⟨⟨a, b, c⟩, ⟨ha, hb, hc⟩, ?_⟩
  refine List.ext_getElem? fun i => ?_
  match i with
  | 0 => rw [h0]; rfl
  | 1 => rw [h1]; rfl
  | 2 => rw [h2]; rfl
  | i + 3 => rw [List.getElem?_eq_none (by omega)]; rfl
/-- a list of items that came in -/
def JbsIn (w : World) (v : Value) (L : List Jb) : Prop := (Rws w v 3 jbC L ∧ ∀ x ∈ L, JbOk x) ∧ L.length * 24 + 4096 ≤ 140737488355328
theorem open_jobs {H : Type} {enc : TypeId × Value → H} {W : World} {v : Value} {d : DataW H} {p : List MemPlace} {r : Reach} {b0 : Nat} (hok : Value.okWide Try.prog W r b0 68 v) (h : DataW.Trod enc Try.prog W 0 (fun _ => true) true 68 v d p) (hw : ∀ q ∈ DataW.weights Try.prog 68 d, q ≤ reachBytes) : ∃ L, JbsIn W v L := by
  obtain ⟨ad, ln, cp, rfl⟩ := okWide_slice Try.underlying68 hok
  obtain ⟨fuel, hf⟩ := h
  obtain ⟨L, h1, h2, h3⟩ := open_rws (k := 3) (cel := jbC) (ok := JbOk) (by omega) (fun _ => rfl) Try.underlying68 (by kernel_rfl) (fun n cs y h hl => one_Jb n cs y h hl) hf
  refine ⟨L, ⟨h2, h1⟩, ?_⟩
  rcases h3 with rfl | ⟨l, r, e, hl⟩
  · simp
  · have e : d = .slice l r := e
    have hb : Try.prog.bytesOf 80 = 24 := by kernel_rfl
    have hwt := hw ((l.length + r.length) * 24) (by rw [e]; simp [DataW.weights, Try.underlying68, hb])
    have hwt' : (l.length + r.length) * 24 ≤ 140737488351232 := hwt
    omega
/-- a list of items that came in: where it is nil it has no room either -/
def JbsN (w : World) (v : Value) (L : List Jb) : Prop := JbsIn w v L ∧ ∀ n c, v = .slice none n c → c = 0
theorem open_jobsN {H : Type} {enc : TypeId × Value → H} {W : World} {v : Value} {d : DataW H} {p : List MemPlace} {r : Reach} {b0 : Nat} (hok : Value.okWide Try.prog W r b0 68 v) (h : DataW.Trod enc Try.prog W 0 (fun _ => true) true 68 v d p) (hw : ∀ q ∈ DataW.weights Try.prog 68 d, q ≤ reachBytes) : ∃ L, JbsN W v L := by
  obtain ⟨L, hL⟩ := open_jobs hok h hw
  refine ⟨L, hL, ?_⟩
  obtain ⟨ad, ln, cp, rfl⟩ := okWide_slice Try.underlying68 hok
  obtain ⟨fuel, hf⟩ := h
  rcases open_slice Try.underlying68 hf with ⟨hcs, _⟩ | ⟨a, len, cap, m, n, D, Pl, hcs, _⟩
  · injection hcs with hcs _
    injection hcs with h1 h2 h3
    intro n c e
    injection e with e1 e2 e3
    omega
  · injection hcs with hcs _
    injection hcs with h1 h2 h3
    intro n c e
    injection e with e1 e2 e3
    rw [h1] at e1
    cases e1
theorem wpList_append_any {P : Program} {w : World} {ops : Array Oper} {rest : List Oper} {o : Oper} {a : Act} {Q : Exit → Act → World → Prop} (hgd : o.guard = none) (s x : Operand) (t : TypeId)
    (ho : o.op = .call { callee := .builtin .append, args := #[s, x], argTypes := #[t, t] })
    (base : Nat) (e : TypeId) (i : TypeInfo) (z : Value) (size bytes : Nat) (ht : P.underlying t = some (.slice e)) (hi : P.info? e = some i) (hz : i.zero = some z)
    (hsize : i.size = size) (hby : i.bytes = bytes) (hzs : z.cells.size = size) (hsz : 0 < size)
    (v : Value) (n : Nat) (xs : List Value) (hs : a.eval s = v) (hown : w.ownsRow base e size v n xs)
    (ao : Option Addr) (m c : Nat) (news : List Value) (hx : a.eval x = .slice ao m c) (hl : news.length = m * size) (hnone : ao = none → m = 0 ∧ c = 0) (hnews : ∀ ad, ao = some ad → ∀ j u, news[j]? = some u → w.cell? (ad.add j) = some u) (h1 : ∀ u ∈ news, u.oneCell' = true)
    (h63 : n + m ≤ maxLen) (hbytes : (n + m) * bytes ≤ 140737488355328) (hbase : base ≤ w.heap.size)
    (h : ∀ v' w', w'.ownsRow base e size v' (n + m) (xs ++ news) → w.grownBy w' v.ownBlock → wpList P ops Q rest (a.put o.dst v') w') : wpList P ops Q (o :: rest) a w := by
  cases ao with
  | some ad => exact wpList_append_own w hgd s x t ho base e i z size bytes ht hi hz hsize hby hzs hsz v n xs hs hown ad m c news hx hl (hnews ad rfl) h1 h63 hbytes hbase fun v' w' h2 h3 _ => h v' w' h2 h3
  | none =>
    obtain ⟨rfl, rfl⟩ := hnone rfl
    have hn : news = [] := List.eq_nil_of_length_eq_zero (by simpa using hl)
    subst hn
    exact wpList_append_own_none hgd s x t ho base e i size ht hi v n xs hs hown hx (h v w (by simpa using hown) (World.grownBy.refl _ _))
def mkJ : Jb := ⟨-77, 0, 0⟩
/-- items that were lent, a marked one behind them -/
def Lnt (w : World) (base : Nat) (v : Value) (L : List Jb) : Prop := ∃ g cap, v = .slice (some ⟨g, 0, none⟩) L.length cap ∧ JRow w base (.slice (some ⟨g, 0, none⟩) (L.length + 1) cap) (L ++ [mkJ])
theorem Lnt.below {w w' : World} {base : Nat} {v : Value} {L : List Jb} (h : Lnt w base v L) (hb : Below w.heap.size w w') : Lnt w' base v L := by
  obtain ⟨g, cap, e, h⟩ := h
  exact ⟨g, cap, e, h.below hb⟩
theorem Lnt.rws {w : World} {base : Nat} {v : Value} {L : List Jb} (h : Lnt w base v L) : Rws w v 3 jbC L := by
  obtain ⟨g, cap, rfl, h⟩ := h
  obtain ⟨h0, a, c, e, hc⟩ := h.rws
  rw [List.length_append] at h0
  refine ⟨by simp at h0; omega, _, cap, rfl, fun _ => ?_⟩
  obtain ⟨g', o, e2, hg, hcc⟩ := hc (by rw [List.length_append]; simp)
  subst e2
  injection e with e1 e2 e3
  refine ⟨g', o, e1, hg, fun i x hx j u hu => hcc i x ?_ j u hu⟩
  rw [List.getElem?_append_left ((List.getElem?_eq_some_iff.1 hx).1)]
  exact hx
set_option maxHeartbeats 4000000 in
theorem lentJ_any (L : List Jb) (v : Value) (w : World) (hv : JbsN w v L) : Calls Try.prog 56 #[v] w fun e w' => ∃ u, e = .returned u ∧ Lnt w' w.heap.size u L ∧ Below w.heap.size w w' := by
  obtain ⟨⟨⟨hv, _⟩, hlen⟩, hnil⟩ := hv
  obtain ⟨i0, hi, hz0, hz1, hz2⟩ := info_parts info_jb
  have HV := hide hv
  obtain ⟨_, a, cap, rfl, _⟩ := hv
  have HALL := hide HV.out.allJ
  have HNIL : Hid (a = none → L.length = 0 ∧ cap = 0) := by
    intro e
    refine ⟨by rw [HALL.out.1 e]; rfl, ?_⟩
    subst e
    exact hnil _ _ rfl
  obtain ⟨n, hn⟩ : ∃ n, L.length = n := ⟨_, rfl⟩
  have HN := hide hn
  rw [hn] at hlen HNIL ⊢
  clear hn hnil HV
  go_enter Try.func56, Try.ntmps56
  go_wp2_with (at_builtin; refine wpList_append_any rfl (.tmp 4) (.tmp 5) 68 rfl w.heap.size 80 i0 _ 3 24 Try.underlying68 hi hz0 hz1 hz2 rfl (by decide) (.slice none 0 0) 0 [] rfl (World.ownsRow_nil _ _ _ _) a n cap (jbsC L) rfl ?a1 HNIL.out ?a2 (jbsC_one L) ?a3 ?a4 (Nat.le_refl _) ?_)
  case a1 => rw [jbsC_len, HN.out]
  case a2 => exact fun ad e => HALL.out.2 ad e w (Below.refl _ _)
  case a3 => unfold maxLen; omega
  case a4 => omega
  intro v1 w1 hown1 hgrow1
  have HB1 : Hid (Below w.heap.size w w1) := (Below.refl w.heap.size w).grown hgrow1 (Nat.le_refl _) (fun k e => by cases e)
  obtain ⟨ao1, c1, rfl⟩ : ∃ ao c, v1 = .slice ao n c := by
    rcases hown1.2 with ⟨e1, e2⟩ | ⟨g, cp, cur, e1, _⟩
    · exact ⟨none, 0, by rw [e1, show n = 0 by omega]⟩
    · exact ⟨some ⟨g, 0, none⟩, cp, by rw [e1]⟩
  have HO1 : Hid ((w1.alloc (.cells (jC (-77) 0 0) 80)).ownsRow w.heap.size 80 3 (.slice ao1 n c1) n (jbsC L)) := by
    have h := World.ownsRow.kept hown1 (grown_below (below_alloc w1 (.cells (jC (-77) 0 0) 80)) none) (by cases ao1 <;> simp [Value.ownBlock])
    exact h
  have hs1 := HB1.out.size
  clear hown1 hgrow1 HNIL HALL
  go_wp2_with (at_builtin; refine wpList_append_any rfl (.tmp 7) (.tmp 9) 68 rfl w.heap.size 80 i0 _ 3 24 Try.underlying68 hi hz0 hz1 hz2 rfl (by decide) (.slice ao1 n c1) n (jbsC L) rfl HO1.out (some ⟨w1.heap.size, 0, none⟩) 1 1 (jbsC [mkJ]) rfl rfl (fun e => by cases e) ?b2 (jbsC_one _) ?b3 ?b4 ?b6 ?_)
  case b2 =>
    intro ad e
    injection e with e
    subst e
    exact new_cell3 w1 _ rfl _ _ _ _
  case b3 => unfold maxLen; omega
  case b4 => omega
  case b6 => rw [size_alloc]; omega
  intro v2 w2 hown2 hgrow2
  have hR : JRow w2 w.heap.size v2 (L ++ [mkJ]) := by
    show World.ownsRow _ _ _ _ _ _ _
    rw [List.length_append, HN.out, jbsC_app]
    exact hown2
  have HB2 : Hid (Below w.heap.size w w2) := (HB1.out.alloc hs1 _).grown hgrow2 (by rw [size_alloc]; omega) (fun k e => (HO1.out.lt k e).1)
  have HR := hide hR
  rcases hR.2 with ⟨_, h2⟩ | ⟨g2, cap2, cur, e2, _, _, hc2, _⟩
  · simp at h2
  subst e2
  rw [List.length_append, HN.out] at hc2 HR ⊢
  simp only [List.length_cons, List.length_nil, Nat.zero_add] at hc2 HR ⊢
  clear hown2 hgrow2 HO1 hR hi hz0 hz1 hz2
  have hc3 : n ≤ cap2 := by omega
  go_wp2_with fail
  go_ret
  exact ⟨.slice (some ⟨g2, 0, none⟩) n cap2, rfl, ⟨g2, cap2, by rw [HN.out], by rw [HN.out]; exact HR.out⟩, HB2.out⟩
end Go.Proofs.Ytcjahdgppnmdkaa
