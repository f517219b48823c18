/- Mi3. -/
import Derived.Test.YtapfaaaepnplcaaGreatDoorG38
import Derived.Laws.AppendOwnNone
import Derived.Laws.Cover3
set_option maxRecDepth 100000
set_option maxHeartbeats 2000000
namespace Go.Proofs.YtapfaaaepnplcaaGreatDoor
open Go.RowKit Go.Great Go.Maps
def itsC (L : List It) : List Value := L.flatMap itC
theorem itsC_len (L : List It) : (itsC L).length = L.length * 4 := by
  induction L with
  | nil => rfl
  | cons x r ih => rw [itsC, List.flatMap_cons, List.length_append, ← itsC, ih, List.length_cons, show (itC x).length = 4 from rfl]; omega
theorem itsC_app (L M : List It) : itsC (L ++ M) = itsC L ++ itsC M := by simp [itsC]
theorem itsC_get {x : It} {j : Nat} {u : Value} (hj : (itC x)[j]? = some u) : ∀ {L : List It} {i : Nat}, L[i]? = some x → (itsC L)[i * 4 + j]? = some u
  | [], i, h => by simp at h
  | y :: r, 0, h => by
    simp at h
    subst h
    rw [itsC, List.flatMap_cons, Nat.zero_mul, Nat.zero_add, List.getElem?_append_left ((List.getElem?_eq_some_iff.1 hj).1)]
    exact hj
  | y :: r, i + 1, h => by
    have hl : (itC y).length = 4 := rfl
    rw [itsC, List.flatMap_cons, List.getElem?_append_right (by rw [hl]; omega), hl, show (i + 1) * 4 + j - 4 = i * 4 + j by omega]
    exact itsC_get hj (by simpa using h)
theorem itsC_one (L : List It) : ∀ u ∈ itsC L, u.oneCell' = true := by
  intro u hu
  unfold itsC at hu
  rw [List.mem_flatMap] at hu
  obtain ⟨x, _, hx⟩ := hu
  simp [itC] at hx
  rcases hx with rfl | rfl | rfl | rfl <;> rfl
/-- a list of items of the call's own -/
def MRow (w : World) (base : Nat) (v : Value) (L : List It) : Prop := w.ownsRow base 118 4 v L.length (itsC L)
theorem MRow.nil (w : World) (base : Nat) : MRow w base (.slice none 0 0) [] := World.ownsRow_nil _ _ _ _
theorem MRow.grown {w w' : World} {base : Nat} {v : Value} {L : List It} {row : Option Nat} (h : MRow w base v L) (g : w.grownBy w' row) (hne : v.ownBlock = none ∨ v.ownBlock ≠ row) : MRow w' base v L := World.ownsRow.kept h g hne
theorem MRow.below {w w' : World} {base : Nat} {v : Value} {L : List It} (h : MRow w base v L) (hb : Below w.heap.size w w') : MRow w' base v L := h.grown (grown_below hb none) (by cases v.ownBlock <;> simp)
theorem MRow.alloc {w : World} {base : Nat} {v : Value} {L : List It} (h : MRow w base v L) (o : Obj) : MRow (w.alloc o) base v L := h.below (below_alloc w o)
theorem MRow.lower {w : World} {base base' : Nat} {v : Value} {L : List It} (h : MRow w base v L) (hb : base' ≤ base) : MRow w base' v L := by
  refine ⟨h.1, ?_⟩
  rcases h.2 with q | ⟨g2, cap2, cur2, q1, q2, q3⟩
  · exact .inl q
  · exact .inr ⟨g2, cap2, cur2, q1, Nat.le_trans hb q2, q3⟩
theorem MRow.shape {w : World} {base : Nat} {v : Value} {L : List It} (h : MRow w base v L) : ∃ a cap, v = .slice a L.length cap := by
  rcases h.2 with ⟨h1, h2⟩ | ⟨g, cap, cur, h1, _⟩
  · exact ⟨none, 0, by rw [h1, h2]⟩
  · exact ⟨_, cap, h1⟩
theorem MRow.noblk {w : World} {base : Nat} {v : Value} {L : List It} {g : Nat} {cs : Array Value} {t : TypeId} (h : MRow w base v L) (hG : Blk w g cs t) (hne : 118 ≠ t) : v.ownBlock = none ∨ v.ownBlock ≠ some g := Or.inr (blk_apart h hG hne)
theorem MRow.rws {w : World} {base : Nat} {v : Value} {L : List It} (h : MRow w base v L) : Rws w v 4 itC L := by
  have h0 := h
  rcases h.2 with ⟨h1, h2⟩ | ⟨g, cap, cur, h1, hb, hh, hnc, hcm, _⟩
  · have : L = [] := List.eq_nil_of_length_eq_zero h2
    subst this h1
    exact ⟨by simp, none, 0, rfl, fun h => absurd h (by simp)⟩
  · subst h1
    refine ⟨Nat.le_trans hnc hcm, _, cap, rfl, fun _ => ⟨g, 0, rfl, lt_of_block hh, fun i x hx j u hu => ?_⟩⟩
    have := World.ownsRow.cells h0 (g := g) rfl (i * 4 + j) u (itsC_get hu hx)
    rw [add_plain'] at this
    rw [← this]
    congr 2
    omega
theorem info_it : (Tryz.prog.info? 118).map (fun i => (i.zero, i.size, i.bytes)) = some (some (.agg #[.int .u8 0, .int .i64 0, .int .i64 0, .int .i64 0]), 4, 32) := by kernel_rfl
/-- a list that came in, its cells one behind the other -/
theorem Rws.cells {w : World} {L : List It} {g o cap : Nat} (h : Rws w (.slice (some ⟨g, o, none⟩) L.length cap) 4 itC L) : ∀ j u, (itsC L)[j]? = some u → w.cell? ((⟨g, o, none⟩ : Addr).add j) = some u := by
  obtain ⟨_, a, cp, e, hc⟩ := h
  intro j u hu
  have hj := (List.getElem?_eq_some_iff.1 hu).1
  rw [itsC_len] at hj
  have hl : 0 < L.length := by omega
  obtain ⟨g', o', e2, hg, hcc⟩ := hc hl
  injection e with e _ _
  rw [e2] at e
  injection e with e
  injection e with e3 e4
  subst e3 e4
  have hi : j / 4 < L.length := by omega
  have hx : L[j / 4]? = some L[j / 4] := by simp [hi]
  have hj4 : j % 4 < 4 := Nat.mod_lt _ (by omega)
  obtain ⟨v, hv⟩ : ∃ v, (itC L[j / 4])[j % 4]? = some v := ⟨(itC L[j / 4])[j % 4]'(by show _ < 4; exact hj4), by simp⟩
  have h1 := itsC_get hv hx
  rw [show j / 4 * 4 + j % 4 = j by omega, hu] at h1
  injection h1 with h1
  subst h1
  rw [add_plain', show o + j = o + j / 4 * 4 + j % 4 by omega]
  exact hcc _ _ hx _ _ hv
theorem eql_nil_Mi3 (a : Option Addr) (l c : Nat) (w : World) : (binOp .eql 50 (.slice a l c) (.slice none 0 0)).run Tryz.prog w = .ok (.bool a.isNone) w := by
  simp only [binOp]
  simp [run_equal_slice_nil w 50 _ a l c Tryz.underlying50]
theorem Rws.all {w : World} {L : List It} {a : Option Addr} {cap : Nat} (h : Rws w (.slice a L.length cap) 4 itC L) : (a = none → L = []) ∧ ∀ ad, a = some ad → ∀ W, Below w.heap.size w W → ∀ j u, (itsC L)[j]? = some u → W.cell? (ad.add j) = some u := by
  have h0 := h
  obtain ⟨_, a', cap', e, hcc⟩ := h
  injection e with e1 e2 e3
  subst e1 e3
  refine ⟨fun ha => ?_, fun ad ha W hb j u hu => ?_⟩
  · refine List.eq_nil_of_length_eq_zero (Decidable.byContradiction fun hn => ?_)
    obtain ⟨g, o, e, _⟩ := hcc (by omega)
    rw [ha] at e
    cases e
  · have hj := (List.getElem?_eq_some_iff.1 hu).1
    rw [itsC_len] at hj
    obtain ⟨g, o, e, _⟩ := hcc (by omega)
    rw [e] at ha h0
    injection ha with ha
    rw [← ha]
    exact (h0.below hb).cells j u hu
theorem sclone_any (L : List It) (v : Value) (w : World) (hR : Rws w v 4 itC L) (hl : L.length * 32 ≤ 140737488355328) : Calls Tryz.prog 31 #[v] w fun e w' => ∃ u, e = .returned u ∧ MRow w' w.heap.size u L ∧ Below w.heap.size w w' := by
  obtain ⟨i0, hi, hz0, hz1, hz2⟩ := info_parts info_it
  have HR := hide hR
  obtain ⟨mN, na, np, rfl, hcc⟩ := hR
  have EQ := eql_nil_Mi3 na L.length np
  have HA := hide HR.out.all
  clear hcc HR
  cases na with
  | none =>
    obtain rfl := HA.out.1 rfl
    clear hi hz0 hz1 hz2 HA
    simp only [List.length_nil] at EQ
    go_enter Tryz.func31, Tryz.ntmps31
    go_wp2_with fail
    go_ret
    exact ⟨_, rfl, MRow.nil _ _, Below.refl _ _⟩
  | some ad =>
    have HN := hide (HA.out.2 ad rfl)
    obtain ⟨n, eN⟩ : ∃ n, Hid (L.length = n) := ⟨_, hide rfl⟩
    rw [eN.out] at EQ mN hl ⊢
    clear HA
    have HO : Hid ((w.alloc (.cells #[] 118)).ownsRow w.heap.size 118 4 (.slice (some ⟨w.heap.size, 0, none⟩) 0 0) 0 []) := hide ⟨rfl, .inr ⟨w.heap.size, 0, #[], rfl, Nat.le_refl _, heap_alloc_new _ _, Nat.le_refl _, by unfold maxLen; omega, rfl, rfl⟩⟩
    go_enter Tryz.func31, Tryz.ntmps31
    go_wp2_with (at_builtin; refine wpList_append_own _ rfl (.tmp 5) (.tmp 6) 50 rfl w.heap.size 118 i0 _ 4 32 Tryz.underlying50 hi hz0 hz1 hz2 rfl (by decide) _ _ _ rfl HO.out ad n np (itsC L) rfl ?c0 ?c1 ?c2 ?c3 ?c4 ?c5 ?_)
    case c0 => rw [itsC_len, eN.out]
    case c1 => exact HN.out _ (below_alloc _ _)
    case c2 => exact itsC_one L
    case c3 => omega
    case c4 => omega
    case c5 => rw [size_alloc]; omega
    intro v' w5 hown5 hgrow5 _
    have HR5 : Hid (MRow w5 w.heap.size v' L) := by
      show World.ownsRow _ _ _ _ _ _ _
      rw [eN.out]
      exact hown5
    have HB5 : Hid (Below w.heap.size w w5) := hide ((below_alloc w _).grown hgrow5 (by rw [size_alloc]; omega) (fun j e => (HO.out.lt j e).1))
    clear hown5 hgrow5 HO hi hz0 hz1 hz2
    obtain ⟨ao5, cap5, rfl⟩ := HR5.out.shape
    go_wp2_with fail
    go_ret
    exact ⟨_, rfl, HR5.out, HB5.out⟩
/-- a run's cells -/
abbrev rC_Mi3 (iv : Value) (p s l : Int) (m : Nat) : Array Value := #[iv, .int .i64 p, .int .i64 s, .int .i64 l, .map (some m)]
/-- a run's state -/
structure Rn where
  L : List It
  p : Nat
  s : Int
  l : Int
  J : Nat → Int
/-- the run in block R; its map has at most n entries -/
def RunB (w : World) (R n : Nat) (r : Rn) : Prop := ∃ iv m, Blk w R (rC_Mi3 iv r.p r.s r.l m) 164 ∧ MRow w 0 iv r.L ∧ MapJ w m n r.J
abbrev rP (R : Nat) : Value := .pointer (some ⟨R, 0, none⟩)
theorem RunB.lt {w : World} {R n : Nat} {r : Rn} (h : RunB w R n r) : R < w.heap.size := by
  obtain ⟨_, _, h, _⟩ := h
  exact h.lt
theorem RunB.grown {w w' : World} {R n : Nat} {r : Rn} (h : RunB w R n r) (hb : Below w.heap.size w w') : RunB w' R n r := by
  obtain ⟨iv, m, h1, h2, h3⟩ := h
  exact ⟨iv, m, h1.after hb, h2.below hb, h3.below hb⟩
theorem RunB.alloc {w : World} {R n : Nat} {r : Rn} (h : RunB w R n r) (o : Obj) : RunB (w.alloc o) R n r := h.grown (below_alloc w o)
theorem RunB.mono {w : World} {R n n' : Nat} {r : Rn} (h : RunB w R n r) (hn : n ≤ n') : RunB w R n' r := by
  obtain ⟨iv, m, h1, h2, h3⟩ := h
  exact ⟨iv, m, h1, h2, h3.mono hn⟩
def rn0 (s : Int) (L : List It) : Rn := ⟨L, 0, s, 0, fun _ => 0⟩
theorem new_any_Mi3 (s : Int) (L : List It) (v : Value) (w : World) (hR : Rws w v 4 itC L) : Calls Tryz.prog 102 #[.int .i64 s, v] w fun e w' => Below w.heap.size w w' ∧ ((chk_MiM L ≠ 0 ∧ e = .returned (.tuple #[.pointer none, .int .i64 (chk_MiM L)])) ∨ (chk_MiM L = 0 ∧ ∃ R, e = .returned (.tuple #[rP R, .int .i64 0]) ∧ w.heap.size ≤ R ∧ RunB w' R 0 (rn0 s L))) := by
  have CH := hide (check_any_Mi1 L v w hR)
  have CL := hide (fun W (hb : Below w.heap.size w W) (hc : chk_MiM L = 0) => sclone_any L v W (hR.below hb) (by have := (chk_ok hc).1; omega))
  obtain ⟨_, na, np, rfl, _⟩ := hR
  have hmm := @run_makeMap Tryz.prog
  generalize L.length = n at *
  by_cases hc : chk_MiM L = 0
  · rw [hc] at CH
    have HC := hide hc
    clear hc
    go_enter Tryz.func102, Tryz.ntmps102
    go_wp2_with fail
    refine CH.out.mono ?_
    rintro e w1 ⟨rfl, hb1⟩
    have Hb := hide hb1
    clear hb1
    go_wp2_with fail
    refine (CL.out _ Hb.out HC.out).mono ?_
    rintro e w2 ⟨u, rfl, hu, hb2⟩
    have Hu := hide hu
    replace Hb := hide (below_next Hb.out (Nat.le_refl _) hb2)
    obtain ⟨ua, uc, rfl⟩ := hu.shape
    clear hu hb2 CL
    generalize L.length = ln at *
    go_wp2_with fail
    go_ret2
    refine ⟨below_next Hb.out (Nat.le_refl _) (b2 _ _ _), .inr ⟨HC.out, w2.heap.size + 1, rfl, ?_, .slice ua ln uc, w2.heap.size, ?_, ?_, ?_⟩⟩
    · have := Hb.out.size; omega
    · have := Blk.new (w2.alloc (.map #[] 0)) (rC_Mi3 (.slice ua ln uc) 0 s 0 w2.heap.size) 164
      rw [size_alloc] at this
      exact this
    · exact ((Hu.out.alloc _).alloc _).lower (Nat.zero_le _)
    · exact (MapJ.made _).alloc _
  · have HC := hide hc
    clear CL
    generalize chk_MiM L = c at *
    have hne : (c != 0) = true := by simp [hc]
    clear hc
    go_enter Tryz.func102, Tryz.ntmps102
    go_wp2_with fail
    refine CH.out.mono ?_
    rintro e w1 ⟨rfl, hb1⟩
    go_wp2_with fail
    go_ret2
    exact ⟨hb1, .inl ⟨HC.out, rfl⟩⟩
end Go.Proofs.YtapfaaaepnplcaaGreatDoor
