/- Items that were lent, and are they as they were? -/
import Derived.Test.YtnekjfidobglmaaMiO
import Derived.Test.YtnekjfidobglmaaMiS
namespace Go.Proofs.Ytnekjfidobglmaa
open Go.RowKit Go.Great Go.Maps Go.Deep Go.WideShapes Go.ChangeShapes

/-- a list of items that came in: where it is nil it has no room either -/
def ItsN (w : World) (v : Value) (L : List It) : Prop := ItsIn w v L ∧ ∀ n c, v = .slice none n c → c = 0
theorem open_itemsN {H : Type} {enc : TypeId × Value → H} {W : World} {v : Value} {d : DataW H} {p : List MemPlace} {r : Reach} {b0 : Nat} (hok : Value.okWide Try.prog W r b0 22 v) (h : DataW.Trod enc Try.prog W 0 (fun _ => true) true 22 v d p) (hw : ∀ q ∈ DataW.weights Try.prog 22 d, q ≤ reachBytes) : ∃ L, ItsN W v L := by
  obtain ⟨L, hL⟩ := open_items hok h hw
  refine ⟨L, hL, ?_⟩
  obtain ⟨ad, ln, cp, rfl⟩ := okWide_slice Try.underlying22 hok
  obtain ⟨fuel, hf⟩ := h
  rcases open_slice Try.underlying22 hf with ⟨hcs, _⟩ | ⟨a, len, cap, m, n, D, Pl, hcs, _⟩
  · injection hcs with hcs _
    injection hcs with h1 h2 h3
    intro n c e
    injection e with e1 e2 e3
    omega
  · injection hcs with hcs _
    injection hcs with h1 h2 h3
    intro n c e
    injection e with e1 e2 e3
    rw [h1] at e1
    cases e1
theorem wpList_append_any {P : Program} {w : World} {ops : Array Oper} {rest : List Oper} {o : Oper} {a : Act} {Q : Exit → Act → World → Prop} (hgd : o.guard = none) (s x : Operand) (t : TypeId)
    (ho : o.op = .call { callee := .builtin .append, args := #[s, x], argTypes := #[t, t] })
    (base : Nat) (e : TypeId) (i : TypeInfo) (z : Value) (size bytes : Nat) (ht : P.underlying t = some (.slice e)) (hi : P.info? e = some i) (hz : i.zero = some z)
    (hsize : i.size = size) (hby : i.bytes = bytes) (hzs : z.cells.size = size) (hsz : 0 < size)
    (v : Value) (n : Nat) (xs : List Value) (hs : a.eval s = v) (hown : w.ownsRow base e size v n xs)
    (ao : Option Addr) (m c : Nat) (news : List Value) (hx : a.eval x = .slice ao m c) (hl : news.length = m * size) (hnone : ao = none → m = 0 ∧ c = 0) (hnews : ∀ ad, ao = some ad → ∀ j u, news[j]? = some u → w.cell? (ad.add j) = some u) (h1 : ∀ u ∈ news, u.oneCell' = true)
    (h63 : n + m ≤ maxLen) (hbytes : (n + m) * bytes ≤ 140737488355328) (hbase : base ≤ w.heap.size)
    (h : ∀ v' w', w'.ownsRow base e size v' (n + m) (xs ++ news) → w.grownBy w' v.ownBlock → wpList P ops Q rest (a.put o.dst v') w') : wpList P ops Q (o :: rest) a w := by
  cases ao with
  | some ad => exact wpList_append_own w hgd s x t ho base e i z size bytes ht hi hz hsize hby hzs hsz v n xs hs hown ad m c news hx hl (hnews ad rfl) h1 h63 hbytes hbase fun v' w' h2 h3 _ => h v' w' h2 h3
  | none =>
    obtain ⟨rfl, rfl⟩ := hnone rfl
    have hn : news = [] := List.eq_nil_of_length_eq_zero (by simpa using hl)
    subst hn
    exact wpList_append_own_none hgd s x t ho base e i size ht hi v n xs hs hown hx (h v w (by simpa using hown) (World.grownBy.refl _ _))
def mkI : It := ⟨99, 0, 0, 0⟩
/-- items that were lent, a marked one behind them -/
def Lnt (w : World) (base : Nat) (v : Value) (L : List It) : Prop := ∃ g cap, v = .slice (some ⟨g, 0, none⟩) L.length cap ∧ MRow w base (.slice (some ⟨g, 0, none⟩) (L.length + 1) cap) (L ++ [mkI])
theorem Lnt.below {w w' : World} {base : Nat} {v : Value} {L : List It} (h : Lnt w base v L) (hb : Below w.heap.size w w') : Lnt w' base v L := by
  obtain ⟨g, cap, e, h⟩ := h
  exact ⟨g, cap, e, h.below hb⟩
theorem Lnt.rws {w : World} {base : Nat} {v : Value} {L : List It} (h : Lnt w base v L) : Rws w v 4 itC L := by
  obtain ⟨g, cap, rfl, h⟩ := h
  obtain ⟨h0, a, c, e, hc⟩ := h.rws
  rw [List.length_append] at h0
  refine ⟨by simp at h0; omega, _, cap, rfl, fun _ => ?_⟩
  obtain ⟨g', o, e2, hg, hcc⟩ := hc (by rw [List.length_append]; simp)
  subst e2
  injection e with e1 e2 e3
  refine ⟨g', o, e1, hg, fun i x hx j u hu => hcc i x ?_ j u hu⟩
  rw [List.getElem?_append_left ((List.getElem?_eq_some_iff.1 hx).1)]
  exact hx
set_option maxHeartbeats 4000000 in
theorem lent_any (L : List It) (v : Value) (w : World) (hv : ItsN w v L) : Calls Try.prog 10 #[v] w fun e w' => ∃ u, e = .returned u ∧ Lnt w' w.heap.size u L ∧ Below w.heap.size w w' := by
  obtain ⟨⟨hv, hlen⟩, hnil⟩ := hv
  obtain ⟨i0, hi, hz0, hz1, hz2⟩ := info_parts info_it
  have HV := hide hv
  obtain ⟨_, a, cap, rfl, _⟩ := hv
  have HALL := hide HV.out.all
  have HNIL : Hid (a = none → L.length = 0 ∧ cap = 0) := by
    intro e
    refine ⟨by rw [HALL.out.1 e]; rfl, ?_⟩
    subst e
    exact hnil _ _ rfl
  obtain ⟨n, hn⟩ : ∃ n, L.length = n := ⟨_, rfl⟩
  have HN := hide hn
  rw [hn] at hlen HNIL ⊢
  clear hn hnil HV
  go_enter Try.func10, Try.ntmps10
  go_wp2_with (at_builtin; refine wpList_append_any rfl (.tmp 4) (.tmp 5) 22 rfl w.heap.size 48 i0 _ 4 32 Try.underlying22 hi hz0 hz1 hz2 rfl (by decide) (.slice none 0 0) 0 [] rfl (World.ownsRow_nil _ _ _ _) a n cap (itsC L) rfl ?a1 HNIL.out ?a2 (itsC_one L) ?a3 ?a4 (Nat.le_refl _) ?_)
  case a1 => rw [itsC_len, HN.out]
  case a2 => exact fun ad e => HALL.out.2 ad e w (Below.refl _ _)
  case a3 => unfold maxLen; omega
  case a4 => omega
  intro v1 w1 hown1 hgrow1
  have HB1 : Hid (Below w.heap.size w w1) := (Below.refl w.heap.size w).grown hgrow1 (Nat.le_refl _) (fun k e => by cases e)
  obtain ⟨ao1, c1, rfl⟩ : ∃ ao c, v1 = .slice ao n c := by
    rcases hown1.2 with ⟨e1, e2⟩ | ⟨g, cp, cur, e1, _⟩
    · exact ⟨none, 0, by rw [e1, show n = 0 by omega]⟩
    · exact ⟨some ⟨g, 0, none⟩, cp, by rw [e1]⟩
  have HO1 : Hid ((w1.alloc (.cells (iC 99 0 0 0) 48)).ownsRow w.heap.size 48 4 (.slice ao1 n c1) n (itsC L)) := by
    have h := World.ownsRow.kept hown1 (grown_below (below_alloc w1 (.cells (iC 99 0 0 0) 48)) none) (by cases ao1 <;> simp [Value.ownBlock])
    exact h
  have hs1 := HB1.out.size
  clear hown1 hgrow1 HNIL HALL
  go_wp2_with (at_builtin; refine wpList_append_any rfl (.tmp 7) (.tmp 9) 22 rfl w.heap.size 48 i0 _ 4 32 Try.underlying22 hi hz0 hz1 hz2 rfl (by decide) (.slice ao1 n c1) n (itsC L) rfl HO1.out (some ⟨w1.heap.size, 0, none⟩) 1 1 (itsC [mkI]) rfl rfl (fun e => by cases e) ?b2 (itsC_one _) ?b3 ?b4 ?b6 ?_)
  case b2 =>
    intro ad e
    injection e with e
    subst e
    exact new_cell4 w1 _ rfl _ _ _ _ _
  case b3 => unfold maxLen; omega
  case b4 => omega
  case b6 => rw [size_alloc]; omega
  intro v2 w2 hown2 hgrow2
  have hR : MRow w2 w.heap.size v2 (L ++ [mkI]) := by
    show World.ownsRow _ _ _ _ _ _ _
    rw [List.length_append, HN.out, itsC_app]
    exact hown2
  have HB2 : Hid (Below w.heap.size w w2) := (HB1.out.alloc hs1 _).grown hgrow2 (by rw [size_alloc]; omega) (fun k e => (HO1.out.lt k e).1)
  have HR := hide hR
  rcases hR.2 with ⟨_, h2⟩ | ⟨g2, cap2, cur, e2, _, _, hc2, _⟩
  · simp at h2
  subst e2
  rw [List.length_append, HN.out] at hc2 HR ⊢
  simp only [List.length_cons, List.length_nil, Nat.zero_add] at hc2 HR ⊢
  clear hown2 hgrow2 HO1 hR hi hz0 hz1 hz2
  have hc3 : n ≤ cap2 := by omega
  go_wp2_with fail
  go_ret
  exact ⟨.slice (some ⟨g2, 0, none⟩) n cap2, rfl, ⟨g2, cap2, by rw [HN.out], by rw [HN.out]; exact HR.out⟩, HB2.out⟩
set_option maxHeartbeats 4000000 in
theorem kept_true (L : List It) (u v : Value) (w : World) (base : Nat) (hu : Lnt w base u L) (hv : Rws w v 4 itC L) : Calls Try.prog 15 #[u, v] w fun e w' => e = .returned (.bool true) ∧ Below w.heap.size w w' := by
  have SA := hide (same_true L u v w hu.rws hv)
  obtain ⟨g, cap, rfl, hM⟩ := hu
  obtain ⟨m1, na, np, rfl, _⟩ := hv
  have hw := hM.rws
  obtain ⟨g', o', cap', x, e1, hg, hxl, cell⟩ := hw.get L.length (by rw [List.length_append]; simp)
  rw [List.getElem?_append_right (Nat.le_refl _), Nat.sub_self] at hxl
  injection hxl with hxl
  subst hxl
  injection e1 with e1 e2 e3
  injection e1 with e1
  injection e1 with e1 e4
  subst e1 e4 e3
  have HC := hide cell
  have hcap : L.length + 1 ≤ cap ∧ cap ≤ 9223372036854775807 := by
    rcases hM.2 with ⟨_, h2⟩ | ⟨g2, cap2, cur, e2, _, _, hc2, hc3, _⟩
    · simp at h2
    · injection e2 with _ _ e3
      rw [List.length_append] at hc2
      simp at hc2
      unfold maxLen at hc3
      omega
  obtain ⟨hcap, hcap2⟩ := hcap
  unfold maxLen at m1
  generalize L.length = n at *
  have hlt1 : (n : Int) < n + 1 := by omega
  have hwr : wrap64 ((n : Int) + 1) = n + 1 := by unfold wrap64; omega
  clear hM hw cell e2
  go_enter Try.func15, Try.ntmps15
  go_wp2_with fail
  refine SA.out.mono ?_
  rintro e w2 ⟨rfl, hb2⟩
  have p0 : w2.cell? ⟨g, 0 + n * 4, none⟩ = some (.int .u8 99) := HC.out w2 hb2 0 _ rfl
  rw [Nat.zero_add] at p0
  have Hb := hide hb2
  clear SA HC hb2
  go_wp2_with fail
  go_ret
  exact ⟨rfl, Hb.out⟩
end Go.Proofs.Ytnekjfidobglmaa
