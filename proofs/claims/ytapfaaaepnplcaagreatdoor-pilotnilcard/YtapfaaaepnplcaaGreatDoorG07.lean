/- GnO, PnO, ExM, MiM, Mi1. -/
import Derived.Test.YtapfaaaepnplcaaGreatDoorG06
import Derived.SizedLaws
import Derived.Deep.Strs
import Derived.OpenShut
set_option maxRecDepth 100000
namespace Go.Proofs.YtapfaaaepnplcaaGreatDoor
open Go.RowKit Go.Great Go.Deep Go.WideShapes Go.ChangeShapes
section
variable {H : Type} {enc : TypeId × Value → H} {W : World} {base : Nat} {spare : Nat → Bool} {held : Bool}
theorem sub_field {t : TypeId} {fs : Array Field} {fuel : Nat} {cs : List Value} {x : DataW H × List MemPlace} (ht : Tryz.prog.underlying t = some (.struct fs)) (h : DataW.trod enc Tryz.prog W base spare held fuel t cs = some x) (i : Nat) (ft : TypeId) (o k : Nat) (hf : (fs[i]?).map (fun f => (f.type, f.offset)) = some (ft, o)) (hk : Tryz.prog.cellsOf ft = k) : ∃ n y, DataW.trod enc Tryz.prog W base spare held n ft ((cs.drop o).take k) = some y := by
  obtain ⟨xs, n, _, _, _, hlen, hel⟩ := DataW.trod_struct ht h
  cases hfi : fs[i]? with
  | none => rw [hfi] at hf; cases hf
  | some f =>
    rw [hfi] at hf
    simp only [Option.map_some, Option.some.injEq, Prod.mk.injEq] at hf
    obtain ⟨e1, e2⟩ := hf
    have h1 := hel i f hfi
    have hlt : i < xs.length := by rw [hlen]; exact (Array.getElem?_eq_some_iff.1 hfi).1
    rw [List.getElem?_eq_getElem hlt, e1, e2, hk] at h1
    exact ⟨n, _, h1⟩
theorem one_of (cs : List Value) (o : Nat) (c : Value) (h : cs[o]? = some c) : (cs.drop o).take 1 = [c] := by
  obtain ⟨hlt, e⟩ := List.getElem?_eq_some_iff.1 h
  rw [List.drop_eq_getElem_cons hlt, e]
  rfl
theorem cells_int : Tryz.prog.cellsOf 3 = 1 := by kernel_rfl
theorem cells_bool : Tryz.prog.cellsOf 4 = 1 := by kernel_rfl
theorem int_field {t : TypeId} {fs : Array Field} {fuel : Nat} {cs : List Value} {x : DataW H × List MemPlace} (ht : Tryz.prog.underlying t = some (.struct fs)) (h : DataW.trod enc Tryz.prog W base spare held fuel t cs = some x) (i o : Nat) (hf : (fs[i]?).map (fun f => (f.type, f.offset)) = some (3, o)) {c : Value} (hc : cs[o]? = some c) : ∃ a, c = .int .i64 a ∧ I64 a := by
  obtain ⟨n, y, h1⟩ := sub_field ht h i 3 o 1 hf cells_int
  rw [one_of cs o c hc] at h1
  obtain ⟨b, e1, _, w1⟩ := DataW.trod_int Tryz.underlying3 h1
  simp at e1
  exact ⟨b, e1, wf_i64 w1⟩
theorem bool_field {t : TypeId} {fs : Array Field} {fuel : Nat} {cs : List Value} {x : DataW H × List MemPlace} (ht : Tryz.prog.underlying t = some (.struct fs)) (h : DataW.trod enc Tryz.prog W base spare held fuel t cs = some x) (i o : Nat) (hf : (fs[i]?).map (fun f => (f.type, f.offset)) = some (4, o)) {c : Value} (hc : cs[o]? = some c) : ∃ a, c = .bool a := by
  obtain ⟨n, y, h1⟩ := sub_field ht h i 4 o 1 hf cells_bool
  rw [one_of cs o c hc] at h1
  obtain ⟨b, e1, _⟩ := DataW.trod_bool Tryz.underlying4 h1
  simp at e1
  exact ⟨b, e1⟩
end
theorem plain_adr {w : World} {a : Addr} {v : Value} (h : w.cell? a = some v) : a = ⟨a.block, a.off, none⟩ ∧ a.block < w.heap.size := by
  obtain ⟨b, o, s⟩ := a
  have hb : b < w.heap.size := by
    refine Decidable.byContradiction fun hn => ?_
    unfold World.cell? at h
    rw [Array.getElem?_eq_none (by simpa using hn)] at h
    simp at h
  cases s with
  | none => exact ⟨rfl, hb⟩
  | some q =>
    exfalso
    unfold World.cell? at h
    split at h
    · simp at h
    · cases h
theorem add_addr (a : Addr) (i j : Nat) : ((⟨a.block, a.off, none⟩ : Addr).add i).add j = ⟨a.block, a.off + i + j, none⟩ := by rw [add_plain', add_plain']
theorem cells_each {w : World} {a : Addr} (n : Nat) {cs : List Value} (h : w.cells? 0 a n = some cs) : cs.length = n ∧ ∀ i, i < n → w.cell? (a.add i) = cs[i]? := by
  unfold World.cells? at h
  rw [if_pos (Nat.zero_le _)] at h
  have hl := mapM_some_length h
  rw [List.length_range] at hl
  exact ⟨hl, fun i hi => mapM_some_get h i i (by simp [hi])⟩
/-- a row of structs of k cells, as it reads -/
def Rws {α : Type} (w : World) (v : Value) (k : Nat) (cel : α → List Value) (L : List α) : Prop :=
  L.length ≤ maxLen ∧ ∃ a cap, v = .slice a L.length cap ∧ (0 < L.length → ∃ g o, a = some ⟨g, o, none⟩ ∧ g < w.heap.size ∧ ∀ i x, L[i]? = some x → ∀ j u, (cel x)[j]? = some u → w.cell? ⟨g, o + i * k + j, none⟩ = some u)
theorem Rws.below {α : Type} {w w' : World} {v : Value} {k : Nat} {cel : α → List Value} {L : List α} (h : Rws w v k cel L) (hb : Below w.heap.size w w') : Rws w' v k cel L := by
  obtain ⟨h0, a, cap, e, h1⟩ := h
  refine ⟨h0, a, cap, e, fun hp => ?_⟩
  obtain ⟨g, o, e2, hg, hc⟩ := h1 hp
  exact ⟨g, o, e2, Nat.lt_of_lt_of_le hg hb.size, fun i x hx j u hu => (hb.cell (p := ⟨g, _, none⟩) hg).trans (hc i x hx j u hu)⟩
/-- one struct of a row -/
theorem Rws.get {α : Type} {w : World} {v : Value} {k : Nat} {cel : α → List Value} {L : List α} (h : Rws w v k cel L) (i : Nat) (hi : i < L.length) : ∃ g o cap x, v = .slice (some ⟨g, o, none⟩) L.length cap ∧ g < w.heap.size ∧ L[i]? = some x ∧ ∀ w', Below w.heap.size w w' → ∀ j u, (cel x)[j]? = some u → w'.cell? ⟨g, o + i * k + j, none⟩ = some u := by
  obtain ⟨_, a, cap, e, h1⟩ := h
  obtain ⟨g, o, e2, hg, hc⟩ := h1 (by omega)
  exact ⟨g, o, cap, L[i], by rw [e, e2], hg, by simp [hi], fun w' hb j u hu => (hb.cell (p := ⟨g, _, none⟩) hg).trans (hc i _ (by simp [hi]) j u hu)⟩
theorem open_rws {α : Type} {cel : α → List Value} {ok : α → Prop} {H : Type} {enc : TypeId × Value → H} {W : World} {t et : TypeId} {k : Nat} (hk0 : 0 < k) (hlen : ∀ x, (cel x).length = k) (ht : Tryz.prog.underlying t = some (.slice et)) (hk : Tryz.prog.cellsOf et = k)
    (one : ∀ (n : Nat) (cs : List Value) (y : DataW H × List MemPlace), DataW.trod enc Tryz.prog W 0 (fun _ => true) true n et cs = some y → cs.length = k → ∃ x, ok x ∧ cs = cel x)
    {u : Value} {y : DataW H × List MemPlace} {n : Nat} (h : DataW.trod enc Tryz.prog W 0 (fun _ => true) true n t [u] = some y) : ∃ L : List α, (∀ x ∈ L, ok x) ∧ Rws W u k cel L ∧ (L = [] ∨ ∃ l r : List (DataW H), y.1 = .slice l r ∧ l.length = L.length) := by
  rcases open_slice ht h with ⟨hcs, _⟩ | ⟨a, len, cap, m, n, D, Pl, hcs, hb, hl, hmax, hm, hx, hel⟩
  · injection hcs with hcs _
    subst hcs
    exact ⟨[], by simp, ⟨by simp, none, 0, rfl, fun h => absurd h (by simp)⟩, .inl rfl⟩
  · injection hcs with hcs _
    subst hcs
    simp only [if_true] at hm
    have each : ∀ i, i < len → ∃ x : α, ok x ∧ ∀ j u, (cel x)[j]? = some u → W.cell? ((a.add (i * k)).add j) = some u := by
      intro i hi
      obtain ⟨cs, hc1, hc2⟩ := hel i (by omega)
      rw [hk] at hc1
      obtain ⟨hl6, hc⟩ := cells_each k hc1
      obtain ⟨x, hx1, rfl⟩ := one n cs _ hc2 hl6
      refine ⟨x, hx1, fun j u hu => ?_⟩
      have hj : j < k := by
        obtain ⟨hlt, _⟩ := List.getElem?_eq_some_iff.1 hu
        omega
      rw [hc j hj]
      exact hu
    obtain ⟨F, hF⟩ : ∃ F : Nat → Option α, ∀ i, i < len → ∃ x, F i = some x ∧ ok x ∧ ∀ j u, (cel x)[j]? = some u → W.cell? ((a.add (i * k)).add j) = some u := by
      refine ⟨fun i => if hi : i < len then some (Classical.choose (each i hi)) else none, fun i hi => ⟨Classical.choose (each i hi), by simp [hi], Classical.choose_spec (each i hi)⟩⟩
    have hlenL : ((List.range len).filterMap F).length = len ∧ ∀ i, i < len → ((List.range len).filterMap F)[i]? = F i := by
      have key : ∀ l : List Nat, (∀ i ∈ l, i < len) → (l.filterMap F).length = l.length ∧ ∀ i, i < l.length → (l.filterMap F)[i]? = (l[i]?).bind F := by
        intro l
        induction l with
        | nil => intro _; exact ⟨rfl, fun i hi => absurd hi (by simp)⟩
        | cons q r ih =>
          intro hq
          obtain ⟨i1, i2⟩ := ih (fun i hi => hq i (List.mem_cons_of_mem _ hi))
          obtain ⟨x, hx1, _⟩ := hF q (hq q (List.mem_cons_self ..))
          rw [List.filterMap_cons_some hx1]
          refine ⟨by simp [i1], fun i hi => ?_⟩
          cases i with
          | zero => simp [hx1]
          | succ i => simpa using i2 i (by simpa using hi)
      obtain ⟨k1, k2⟩ := key (List.range len) (fun i hi => List.mem_range.1 hi)
      rw [List.length_range] at k1 k2
      exact ⟨k1, fun i hi => by rw [k2 i hi, List.getElem?_range hi]; rfl⟩
    refine ⟨(List.range len).filterMap F, ?_, ⟨?_, some a, cap, by rw [hlenL.1], ?_⟩, ?_⟩
    · intro x hx
      rw [List.mem_filterMap] at hx
      obtain ⟨i, hi, hx⟩ := hx
      obtain ⟨x', hx1, hx2, _⟩ := hF i (List.mem_range.1 hi)
      rw [hx] at hx1
      injection hx1 with hx1
      rw [hx1]
      exact hx2
    · rw [hlenL.1]; omega
    · intro h0
      rw [hlenL.1] at h0
      obtain ⟨x0, _, _, hp⟩ := hF 0 h0
      have hc0 : ∃ u, (cel x0)[0]? = some u := ⟨(cel x0)[0]'(by rw [hlen]; exact hk0), by simp [hlen, hk0]⟩
      obtain ⟨u0, hu0⟩ := hc0
      have hp := hp 0 u0 hu0
      have ha : a.add (0 * k) = a := by simp [Addr.add]
      have ha0 : a.add 0 = a := by simp [Addr.add]
      rw [ha, ha0] at hp
      obtain ⟨e, hbl⟩ := plain_adr hp
      refine ⟨a.block, a.off, by rw [← e], hbl, fun i x hi j u hu => ?_⟩
      have hlt : i < len := by
        obtain ⟨hlt, _⟩ := List.getElem?_eq_some_iff.1 hi
        rw [hlenL.1] at hlt
        exact hlt
      rw [hlenL.2 i hlt] at hi
      obtain ⟨x', hx1, _, hq⟩ := hF i hlt
      rw [hi] at hx1
      injection hx1 with hx1
      subst hx1
      have hq := hq j u hu
      rw [e, add_addr] at hq
      exact hq
    · refine .inr ⟨(List.range len).map D, (List.range (m - len)).map fun j => D (len + j), ?_, by rw [hlenL.1, List.length_map, List.length_range]⟩
      rw [hx]
theorem list_of {l : List Value} {n : Nat} (h : l.length = n) : ∀ i, i < n → ∃ c, l[i]? = some c := fun i hi => ⟨l[i]'(by omega), by simp [h, hi]⟩
theorem okWide_strG {W : World} {r : Reach} {b0 : Nat} {t : TypeId} {fs : Array Field} {v : Value} (ht : Tryz.prog.underlying t = some (.struct fs)) (h : Value.okWide Tryz.prog W r b0 t v) : ∃ cs : Array Value, v = .agg cs ∧ cs.size = Tryz.prog.cellsOf t := by
  simp only [Value.okWide, ht] at h
  obtain ⟨cs, h1, h2, _⟩ := h
  exact ⟨cs, h1, h2⟩
end Go.Proofs.YtapfaaaepnplcaaGreatDoor
set_option maxRecDepth 100000
namespace Go.Proofs.YtapfaaaepnplcaaGreatDoor
open Go.RowKit Go.Great Go.Deep Go.WideShapes Go.ChangeShapes
theorem cells_str3 : Tryz.prog.cellsOf 22 = 3 := by kernel_rfl
theorem cells_str : Tryz.prog.cellsOf 9 = 1 := by kernel_rfl
theorem cells_inp : Tryz.prog.cellsOf 24 = 12 := by kernel_rfl
theorem listI12 {l : List Value} (h : l.length = 12) : ∃ c0 c1 c2 c3 c4 c5 c6 c7 c8 c9 ca cb, l = [c0, c1, c2, c3, c4, c5, c6, c7, c8, c9, ca, cb] := by
  match l, h with
  | [c0, c1, c2, c3, c4, c5, c6, c7, c8, c9, ca, cb], _ => exact ⟨c0, c1, c2, c3, c4, c5, c6, c7, c8, c9, ca, cb, rfl⟩
section
variable {H : Type} {enc : TypeId × Value → H} {W : World} {base : Nat} {spare : Nat → Bool} {held : Bool}
theorem str_field {t : TypeId} {fs : Array Field} {fuel : Nat} {cs : List Value} {x : DataW H × List MemPlace} (ht : Tryz.prog.underlying t = some (.struct fs)) (h : DataW.trod enc Tryz.prog W base spare held fuel t cs = some x) (i o : Nat) (hf : (fs[i]?).map (fun f => (f.type, f.offset)) = some (9, o)) {c : Value} (hc : cs[o]? = some c) : ∃ a, c = .string a := by
  obtain ⟨n, y, h1⟩ := sub_field ht h i 9 o 1 hf cells_str
  rw [one_of cs o c hc] at h1
  obtain ⟨b, e1, _⟩ := DataW.trod_string Tryz.underlying9 h1
  simp at e1
  exact ⟨b, e1⟩
theorem three_strs {n : Nat} {c0 c1 c2 : Value} {y : DataW H × List MemPlace} (h : DataW.trod enc Tryz.prog W base spare held n 22 [c0, c1, c2] = some y) : ∃ a b c : ByteArray, c0 = .string a ∧ c1 = .string b ∧ c2 = .string c := by
  obtain ⟨xs, m, _, _, _, hl, hel⟩ := DataW.trod_array Tryz.underlying22 h
  have each : ∀ i, i < 3 → ∃ c : ByteArray, ([c0, c1, c2].drop i).take 1 = [.string c] := by
    intro i hi
    have h0 := hel i hi
    rw [show xs[i]? = some (xs[i]'(by omega)) by simp [hl, hi]] at h0
    simp only [cells_str, Nat.mul_one] at h0
    obtain ⟨c, e0, _⟩ := DataW.trod_string Tryz.underlying9 h0
    exact ⟨c, e0⟩
  obtain ⟨n0, e0⟩ := each 0 (by omega)
  obtain ⟨n1, e1⟩ := each 1 (by omega)
  obtain ⟨n2, e2⟩ := each 2 (by omega)
  simp only [List.drop_zero, List.take_succ_cons, List.take_zero, List.drop_succ_cons, List.cons.injEq, and_true] at e0 e1 e2
  exact ⟨n0, n1, n2, e0, e1, e2⟩
end
theorem open_inputs {H : Type} {enc : TypeId × Value → H} {W : World} {v : Value} {d : DataW H} {p : List MemPlace} {r : Reach} {b0 : Nat} (hok : Value.okWide Tryz.prog W r b0 24 v) (h : DataW.Trod enc Tryz.prog W 0 (fun _ => true) true 24 v d p) : ∃ x0 x1 x2 x3 x4 x5 x6 x7 x8 x9 xa xb : ByteArray, v = .agg #[.string x0, .string x1, .string x2, .string x3, .string x4, .string x5, .string x6, .string x7, .string x8, .string x9, .string xa, .string xb] := by
  obtain ⟨cs, rfl, hsz⟩ := okWide_strG Tryz.underlying24 hok
  obtain ⟨fuel, hf⟩ := h
  have hl : cs.toList.length = 12 := by rw [Array.length_toList, hsz]; exact cells_inp
  obtain ⟨c0, c1, c2, c3, c4, c5, c6, c7, c8, c9, ca, cb, hq⟩ := listI12 hl
  have hf' : DataW.trod enc Tryz.prog W 0 (fun _ => true) true fuel 24 cs.toList = _ := hf
  rw [hq] at hf'
  obtain ⟨_, _, h0⟩ := sub_field Tryz.underlying24 hf' 0 22 0 3 rfl cells_str3
  obtain ⟨_, _, h1⟩ := sub_field Tryz.underlying24 hf' 1 22 3 3 rfl cells_str3
  obtain ⟨_, _, h2⟩ := sub_field Tryz.underlying24 hf' 2 22 6 3 rfl cells_str3
  obtain ⟨a9, rfl⟩ := str_field Tryz.underlying24 hf' 3 9 rfl rfl
  obtain ⟨aa, rfl⟩ := str_field Tryz.underlying24 hf' 4 10 rfl rfl
  obtain ⟨ab, rfl⟩ := str_field Tryz.underlying24 hf' 5 11 rfl rfl
  simp only [List.drop_zero, List.take_succ_cons, List.take_zero, List.drop_succ_cons] at h0 h1 h2
  obtain ⟨x0, x1, x2, rfl, rfl, rfl⟩ := three_strs h0
  obtain ⟨x3, x4, x5, rfl, rfl, rfl⟩ := three_strs h1
  obtain ⟨x6, x7, x8, rfl, rfl, rfl⟩ := three_strs h2
  exact ⟨x0, x1, x2, x3, x4, x5, x6, x7, x8, a9, aa, ab, congrArg Value.agg (Array.ext' hq)⟩
end Go.Proofs.YtapfaaaepnplcaaGreatDoor
set_option maxRecDepth 100000
namespace Go.Proofs.YtapfaaaepnplcaaGreatDoor
open Go.RowKit Go.Great
/-- a turn: its tick, its job's rank, number and period -/
structure Tu where
  tk : Int
  rk : Int
  nu : Int
  pe : Int
def z0 : Tu := ⟨0, 0, 0, 0⟩
/-- what is lesser goes ahead: by tick, rank and number -/
def ky (t : Tu) : Int := t.tk * 1361129467683753853853498429727072845824 + t.rk * 36893488147419103232 + t.nu
structure TOk (t : Tu) : Prop where
  t0 : 0 ≤ t.tk
  t1 : t.tk ≤ 9223372036854775807
  r0 : -9223372036854775808 ≤ t.rk
  r1 : t.rk ≤ 9223372036854775807
  n0 : 0 ≤ t.nu
  n1 : t.nu < 64
  p0 : 1 ≤ t.pe
  p1 : t.pe ≤ 9223372036854775807
/-- what 'against' answers -/
def cm (x y : Int) : Int := if x < y then -1 else if y < x then 1 else 0
def ag (a b : Tu) : Int := if cm a.tk b.tk ≠ 0 then cm a.tk b.tk else if cm a.rk b.rk ≠ 0 then cm a.rk b.rk else cm a.nu b.nu
theorem cm_cases (x y : Int) : (x < y ∧ cm x y = -1) ∨ (y < x ∧ cm x y = 1) ∨ (x = y ∧ cm x y = 0) := by
  unfold cm
  by_cases h : x < y
  · exact .inl ⟨h, by rw [if_pos h]⟩
  · by_cases h2 : y < x
    · exact .inr (.inl ⟨h2, by rw [if_neg h, if_pos h2]⟩)
    · exact .inr (.inr ⟨by omega, by rw [if_neg h, if_neg h2]⟩)
theorem ag_lt {a b : Tu} (ha : TOk a) (hb : TOk b) : decide (ag a b < 0) = decide (ky a < ky b) := by
  obtain ⟨_, _, a3, a4, a5, a6, _, _⟩ := ha
  obtain ⟨_, _, b3, b4, b5, b6, _, _⟩ := hb
  rw [decide_eq_decide]
  unfold ag ky
  rcases cm_cases a.tk b.tk with ⟨h1, e1⟩ | ⟨h1, e1⟩ | ⟨h1, e1⟩ <;> rw [e1]
  · rw [if_pos (by decide)]; omega
  · rw [if_pos (by decide)]; omega
  · rw [if_neg (by decide)]
    rcases cm_cases a.rk b.rk with ⟨h2, e2⟩ | ⟨h2, e2⟩ | ⟨h2, e2⟩ <;> rw [e2]
    · rw [if_pos (by decide)]; omega
    · rw [if_pos (by decide)]; omega
    · rw [if_neg (by decide)]
      rcases cm_cases a.nu b.nu with ⟨h3, e3⟩ | ⟨h3, e3⟩ | ⟨h3, e3⟩ <;> rw [e3] <;> omega
def te (l : List Tu) (i : Nat) : Tu := l.getD i z0
def hg (l : List Tu) (i : Nat) : Int := ky (te l i)
/-- two of a list change places -/
def sw (l : List Tu) (i j : Nat) : List Tu := (l.set i (te l j)).set j (te l i)
theorem sw_len (l : List Tu) (i j : Nat) : (sw l i j).length = l.length := by simp [sw]
theorem te_get {l : List Tu} {i : Nat} (h : i < l.length) : te l i = l[i] := by simp [te, h]
theorem te_mem {l : List Tu} {i : Nat} (h : i < l.length) : te l i ∈ l := by rw [te_get h]; exact List.getElem_mem h
theorem te_set (l : List Tu) (i k : Nat) (v : Tu) (hi : i < l.length) : te (l.set i v) k = if k = i then v else te l k := by
  unfold te
  rw [List.getD, List.getD, List.getElem?_set]
  by_cases e : i = k
  · subst e; simp [hi]
  · rw [if_neg e, if_neg (fun h => e h.symm)]
theorem te_sw (l : List Tu) (i j k : Nat) (hi : i < l.length) (hj : j < l.length) : te (sw l i j) k = if k = j then te l i else if k = i then te l j else te l k := by
  unfold sw
  rw [te_set _ _ _ _ (by simpa using hj), te_set _ _ _ _ hi]
theorem hg_sw (l : List Tu) (i j k : Nat) (hi : i < l.length) (hj : j < l.length) : hg (sw l i j) k = if k = j then hg l i else if k = i then hg l j else hg l k := by
  unfold hg
  rw [te_sw l i j k hi hj]
  split
  · rfl
  · split <;> rfl
/-- the first n are a heap -/
def Hp (l : List Tu) (n : Nat) : Prop := ∀ k, 0 < k → k < n → hg l ((k - 1) / 2) ≤ hg l k
/-- .. but for the one at j, which may be too small -/
def UpI (l : List Tu) (j n : Nat) : Prop := (∀ k, 0 < k → k < n → k ≠ j → hg l ((k - 1) / 2) ≤ hg l k) ∧ (∀ k, 0 < k → k < n → (k - 1) / 2 = j → 0 < j → hg l ((j - 1) / 2) ≤ hg l k)
/-- .. but for the one at i, which may be too great -/
def DnI (l : List Tu) (i n : Nat) : Prop := (∀ k, 0 < k → k < n → (k - 1) / 2 ≠ i → hg l ((k - 1) / 2) ≤ hg l k) ∧ (∀ k, 0 < k → k < n → (k - 1) / 2 = i → 0 < i → hg l ((i - 1) / 2) ≤ hg l k)
theorem UpI.done {l : List Tu} {j n : Nat} (h : UpI l j n) (hj : j = 0 ∨ hg l ((j - 1) / 2) ≤ hg l j) : Hp l n := by
  intro k h0 hk
  by_cases e : k = j
  · subst e
    rcases hj with hj | hj
    · omega
    · exact hj
  · exact h.1 k h0 hk e
theorem UpI.swap {l : List Tu} {j n : Nat} (h : UpI l j n) (hn : n ≤ l.length) (hj : 0 < j) (hjn : j < n) (hlt : hg l j < hg l ((j - 1) / 2)) : UpI (sw l ((j - 1) / 2) j) ((j - 1) / 2) n := by
  have hi : (j - 1) / 2 < j := by omega
  refine ⟨fun k h0 hk hne => ?_, fun k h0 hk hp hi0 => ?_⟩
  · rw [hg_sw _ _ _ _ (by omega) (by omega), hg_sw _ _ _ _ (by omega) (by omega)]
    by_cases e : k = j
    · subst e
      rw [if_neg (by omega), if_pos rfl, if_pos rfl]
      omega
    · rw [if_neg e, if_neg hne]
      by_cases e2 : (k - 1) / 2 = j
      · rw [if_pos e2]
        exact h.2 k h0 hk e2 hj
      · rw [if_neg e2]
        by_cases e3 : (k - 1) / 2 = (j - 1) / 2
        · rw [if_pos e3]
          have := h.1 k h0 hk e
          rw [e3] at this
          omega
        · rw [if_neg e3]
          exact h.1 k h0 hk e
  · rw [hg_sw _ _ _ _ (by omega) (by omega), hg_sw _ _ _ _ (by omega) (by omega)]
    rw [if_neg (by omega), if_neg (by omega)]
    have hup := h.1 ((j - 1) / 2) hi0 (by omega) (by omega)
    by_cases e : k = j
    · rw [if_pos e]
      exact hup
    · rw [if_neg e, if_neg (by omega)]
      have := h.1 k h0 hk e
      rw [hp] at this
      omega
theorem DnI.done {l : List Tu} {i n : Nat} (h : DnI l i n) (hj : ∀ k, 0 < k → k < n → (k - 1) / 2 = i → hg l i ≤ hg l k) : Hp l n := by
  intro k h0 hk
  by_cases e : (k - 1) / 2 = i
  · rw [e]; exact hj k h0 hk e
  · exact h.1 k h0 hk e
theorem DnI.swap {l : List Tu} {i j n : Nat} (h : DnI l i n) (hn : n ≤ l.length) (hj0 : 0 < j) (hjn : j < n) (hp : (j - 1) / 2 = i) (hlt : hg l j < hg l i) (hmin : ∀ k, 0 < k → k < n → (k - 1) / 2 = i → hg l j ≤ hg l k) : DnI (sw l i j) j n := by
  have hij : i < j := by omega
  refine ⟨fun k h0 hk hne => ?_, fun k h0 hk hpk hj => ?_⟩
  · rw [hg_sw _ _ _ _ (by omega) (by omega), hg_sw _ _ _ _ (by omega) (by omega), if_neg hne]
    by_cases e : k = j
    · subst e
      rw [if_pos hp, if_pos rfl]
      omega
    · rw [if_neg e]
      by_cases e2 : (k - 1) / 2 = i
      · rw [if_pos e2, if_neg (by omega)]
        exact hmin k h0 hk e2
      · rw [if_neg e2]
        by_cases e3 : k = i
        · subst e3
          rw [if_pos rfl]
          exact h.2 j hj0 hjn hp h0
        · rw [if_neg e3]
          exact h.1 k h0 hk e2
  · rw [hg_sw _ _ _ _ (by omega) (by omega), hg_sw _ _ _ _ (by omega) (by omega), hp, if_neg (by omega), if_pos rfl, if_neg (by omega), if_neg (by omega)]
    have := h.1 k h0 hk (by omega)
    rw [hpk] at this
    exact this
/-- the least one lies ahead -/
theorem Hp.least {l : List Tu} {n : Nat} (h : Hp l n) : ∀ k, k < n → hg l 0 ≤ hg l k := by
  intro k
  induction k using Nat.strongRecOn with
  | _ k ih =>
    intro hk
    by_cases e : k = 0
    · subst e; exact Int.le_refl _
    · have h1 := h k (by omega) hk
      have h2 := ih ((k - 1) / 2) (by omega) (by omega)
      omega
theorem sw_perm (l : List Tu) (i j : Nat) (hi : i < l.length) (hj : j < l.length) : (sw l i j).Perm l := by
  classical
  rw [List.perm_iff_count]
  intro a
  unfold sw
  have ei : te l i = l[i] := te_get hi
  have ej : te l j = l[j] := te_get hj
  rw [ei, ej]
  by_cases e : i = j
  · subst e
    simp
  · rw [List.count_set (by simpa using hj), List.getElem_set_ne e, List.count_set hi]
    have c1 : (if l[i] = a then 1 else 0) ≤ l.count a := by
      split
      · next h => rw [← h]; exact List.count_pos_iff.2 (List.getElem_mem hi)
      · omega
    have c2 : (if l[j] = a then 1 else 0) ≤ l.count a := by
      split
      · next h => rw [← h]; exact List.count_pos_iff.2 (List.getElem_mem hj)
      · omega
    simp only [beq_iff_eq]
    split <;> split <;> simp_all <;> omega
theorem hg_app (l m : List Tu) (k : Nat) (h : k < l.length) : hg (l ++ m) k = hg l k := by
  unfold hg te
  rw [List.getD, List.getD, List.getElem?_append_left h]
/-- one more at the end -/
theorem Hp.push {l : List Tu} (h : Hp l l.length) (x : Tu) : UpI (l ++ [x]) l.length (l.length + 1) := by
  refine ⟨fun k h0 hk hne => ?_, fun k h0 hk hp h1 => by omega⟩
  rw [hg_app _ _ _ (by omega), hg_app _ _ _ (by omega)]
  exact h k h0 (by omega)
/-- the first and the last one have changed places -/
theorem Hp.pop {l : List Tu} {n : Nat} (h : Hp l (n + 1)) (hn : l.length = n + 1) : DnI (sw l 0 n) 0 n := by
  refine ⟨fun k h0 hk hne => ?_, fun k h0 hk hp h1 => by omega⟩
  rw [hg_sw _ _ _ _ (by omega) (by omega), hg_sw _ _ _ _ (by omega) (by omega), if_neg (by omega), if_neg hne, if_neg (by omega), if_neg (by omega)]
  exact h k h0 (by omega)
theorem hg_take (l : List Tu) (n k : Nat) (h : k < n) : hg (l.take n) k = hg l k := by
  unfold hg te
  rw [List.getD, List.getD, List.getElem?_take, if_pos h]
/-- what is left when the last one is taken off -/
theorem pop_end {l m : List Tu} {n : Nat} (hn : l.length = n + 1) (hm : m.Perm l) (hl : te m n = te l 0) (hp : Hp m n) : Hp (m.take n) n ∧ l.Perm (te l 0 :: m.take n) ∧ (m.take n).length = n := by
  have hml : m.length = n + 1 := by rw [hm.length_eq, hn]
  refine ⟨fun k h0 hk => ?_, ?_, by rw [List.length_take]; omega⟩
  · rw [hg_take _ _ _ (by omega), hg_take _ _ _ hk]
    exact hp k h0 hk
  · refine hm.symm.trans ?_
    have e : m = m.take n ++ [te l 0] := by
      have h1 : n < m.length := by omega
      rw [← hl]
      have h2 := List.take_append_drop n m
      rw [List.drop_eq_getElem_cons h1, List.drop_eq_nil_of_le (by omega)] at h2
      have h3 : m[n] = te m n := (te_get h1).symm
      rw [h3] at h2
      exact h2.symm
    exact (List.Perm.of_eq e).trans List.perm_append_comm
/-- the one that is taken off is the least -/
theorem Hp.first {l s : List Tu} (h : Hp l l.length) (hs : l.Perm s) (h0 : 0 < l.length) : te l 0 ∈ s ∧ ∀ x ∈ s, hg l 0 ≤ ky x := by
  refine ⟨hs.subset (te_mem h0), fun x hx => ?_⟩
  obtain ⟨i, hi, e⟩ := List.getElem_of_mem (hs.symm.subset hx)
  have := h.least i hi
  unfold hg at this ⊢
  rw [te_get hi, e] at this
  exact this
end Go.Proofs.YtapfaaaepnplcaaGreatDoor
set_option maxRecDepth 100000
namespace Go.Proofs.YtapfaaaepnplcaaGreatDoor
open Go.RowKit Go.Great
theorem i64_of {x : Int} (h : -9223372036854775808 ≤ x ∧ x ≤ 9223372036854775807) : I64 x := h
theorem i64_0 : I64 0 := i64_of (by omega)
/-- an item -/
structure It where
  k : UInt8
  a : Int
  b : Int
  c : Int
def ItOk (x : It) : Prop := I64 x.a ∧ I64 x.b ∧ I64 x.c
def itC (x : It) : List Value := [.int .u8 (x.k.toNat : Int), .int .i64 x.a, .int .i64 x.b, .int .i64 x.c]
/-- an item's cells as an array -/
abbrev iC (k a b c : Int) : Array Value := #[.int .u8 k, .int .i64 a, .int .i64 b, .int .i64 c]
abbrev iV (k a b c : Int) : Value := .agg (iC k a b c)
def wi (x lo hi : Int) : Bool := decide (lo ≤ x) && decide (x ≤ hi)
/-- the document's table -/
def okK (k a b c : Int) : Bool :=
  if k = 1 then wi a 1 120000 && decide (b = 0) && decide (c = 0)
  else if k = 2 then wi a (-536870912) 536870912 && wi b (-536870912) 536870912 && wi c 0 120000
  else if k = 3 then wi a 0 1000000 && decide (b = 0) && decide (c = 0)
  else if k = 4 then wi b 0 255 && decide (c = 0)
  else if k = 5 then wi a 1600 64000 && decide (b = 0) && decide (c = 0)
  else if k = 6 ∨ k = 7 then decide (a = 0) && decide (b = 0) && decide (c = 0)
  else false
/-- what is wrong with an item of n -/
def oneE (n : Nat) (x : It) : Int := if okK x.k.toNat x.a x.b x.c = false then 191 else if x.k.toNat = 4 ∧ ¬ (0 ≤ x.a ∧ x.a < n) then 190 else 0
def chkG (n : Nat) : List It → Int
  | [] => 0
  | x :: r => if oneE n x = 0 then chkG n r else oneE n x
/-- what is wrong with a mission -/
def chk_MiM (L : List It) : Int := if 64 < L.length then 4 else chkG L.length L
theorem chkG_mem {n : Nat} : ∀ {L : List It}, chkG n L = 0 → ∀ x ∈ L, oneE n x = 0
  | [], _, x, h => by simp at h
  | y :: r, h, x, hx => by
    unfold chkG at h
    split at h
    · next h0 =>
      rcases List.mem_cons.1 hx with rfl | hx
      · exact h0
      · exact chkG_mem h x hx
    · next h0 => exact absurd h h0
theorem chk_ok {L : List It} (h : chk_MiM L = 0) : L.length ≤ 64 ∧ ∀ x ∈ L, oneE L.length x = 0 := by
  unfold chk_MiM at h
  split at h
  · cases h
  · exact ⟨by omega, chkG_mem h⟩
theorem one_ok {n : Nat} {x : It} (h : oneE n x = 0) : okK x.k.toNat x.a x.b x.c = true ∧ (x.k.toNat = 4 → 0 ≤ x.a ∧ x.a < n) := by
  unfold oneE at h
  split at h
  · cases h
  · next h0 =>
    split at h
    · cases h
    · next h1 => exact ⟨by simpa using h0, fun e => Decidable.byContradiction fun h2 => h1 ⟨e, h2⟩⟩
theorem chk_small {L : List It} : 0 ≤ chk_MiM L ∧ chk_MiM L ≤ 191 := by
  have key : ∀ (n : Nat) (l : List It), 0 ≤ chkG n l ∧ chkG n l ≤ 191 := by
    intro n l
    induction l with
    | nil => exact ⟨by simp [chkG], by simp [chkG]⟩
    | cons x r ih =>
      unfold chkG
      split
      · exact ih
      · unfold oneE
        split
        · omega
        · split <;> omega
  unfold chk_MiM
  split
  · omega
  · exact key _ _
theorem wi_true {x lo hi : Int} (h : wi x lo hi = true) : lo ≤ x ∧ x ≤ hi := by unfold wi at h; simp at h; exact h
theorem drop_cons {α : Type} {L : List α} {k : Nat} {x : α} (h : L[k]? = some x) : L.drop k = x :: L.drop (k + 1) := by
  obtain ⟨hlt, e⟩ := List.getElem?_eq_some_iff.1 h
  rw [List.drop_eq_getElem_cons hlt, e]
end Go.Proofs.YtapfaaaepnplcaaGreatDoor
set_option maxRecDepth 100000
set_option maxHeartbeats 4000000
namespace Go.Proofs.YtapfaaaepnplcaaGreatDoor
open Go.RowKit Go.Great
theorem within_any_Mi1 (x lo hi : Int) (w : World) : Calls Tryz.prog 173 #[.int .i64 x, .int .i64 lo, .int .i64 hi] w fun e w' => e = .returned (.bool (wi x lo hi)) ∧ w' = w := by
  unfold wi
  by_cases h1 : lo ≤ x
  · go_enter Tryz.func173, Tryz.ntmps173
    go_wp2_with fail
    go_ret
    exact ⟨ret_bool (by simp [h1]), rfl⟩
  · go_enter Tryz.func173, Tryz.ntmps173
    go_wp2_with fail
    go_ret
    exact ⟨ret_bool (by simp; omega), rfl⟩
theorem beq_dec (c : Int) : (c == 0) = decide (c = 0) := by rw [Bool.eq_iff_iff]; simp
theorem it_cells {w : World} {g : Nat} {k a b c : Int} {t : TypeId} (h : Blk w g (iC k a b c) t) : w.cell? ⟨g, 0, none⟩ = some (.int .u8 k) ∧ w.cell? ⟨g, 1, none⟩ = some (.int .i64 a) ∧ w.cell? ⟨g, 2, none⟩ = some (.int .i64 b) ∧ w.cell? ⟨g, 3, none⟩ = some (.int .i64 c) := ⟨h.cell 0 rfl, h.cell 1 rfl, h.cell 2 rfl, h.cell 3 rfl⟩
theorem mayBe_any (k a b c : Int) (w : World) : Calls Tryz.prog 250 #[iV k a b c] w fun e w' => e = .returned (.bool (okK k a b c)) ∧ Below w.heap.size w w' := by
  have WI := hide within_any_Mi1
  have B0 := Blk.new w (iC k a b c) 118
  have hb := below_alloc w (.cells (iC k a b c) 118)
  obtain ⟨W0, hW0⟩ : ∃ W0, w.alloc (.cells (iC k a b c) 118) = W0 := ⟨_, rfl⟩
  rw [hW0] at B0 hb
  obtain ⟨c0, c1, c2, c3⟩ := it_cells B0
  obtain ⟨R, HR⟩ : ∃ R, Hid (okK k a b c = R) := ⟨_, hide rfl⟩
  rw [HR.out]
  unfold iC at hW0
  have Hb := hide hb
  clear B0 hb
  go_enter Tryz.func250, Tryz.ntmps250
  go_upto_region 1 with fail
  clear hW0
  go_quiet (fail)
  have HW : ∀ n, Hid (Below w.heap.size w (W0.drewN n)) := fun n => hide (below_drewN Hb.out n)
  clear Hb
  go_upto_region 3 with fail
  clear c0 c1 c2 c3
  by_cases k1 : k = 1
  · subst k1
    have HE : Hid (R = (wi a 1 120000 && decide (b = 0) && decide (c = 0))) := hide HR.out.symm
    clear HR
    go_wp2_with (go_at_call 173; refine (WI.out _ _ _ _).mono ?_; rintro e w2 ⟨rfl, hw2⟩; obtain rfl := hw2.symm)
    all_goals go_ret
    all_goals refine ⟨ret_bool ?_, (HW _).out⟩
    all_goals rw [HE.out]
    all_goals simp [*, beq_dec]
  by_cases k2 : k = 2
  · subst k2
    have HE : Hid (R = (wi a (-536870912) 536870912 && wi b (-536870912) 536870912 && wi c 0 120000)) := hide HR.out.symm
    clear HR
    go_wp2_with (go_at_call 173; refine (WI.out _ _ _ _).mono ?_; rintro e w2 ⟨rfl, hw2⟩; obtain rfl := hw2.symm)
    all_goals go_ret
    all_goals refine ⟨ret_bool ?_, (HW _).out⟩
    all_goals rw [HE.out]
    all_goals simp [*]
  by_cases k3 : k = 3
  · subst k3
    have HE : Hid (R = (wi a 0 1000000 && decide (b = 0) && decide (c = 0))) := hide HR.out.symm
    clear HR
    go_wp2_with (go_at_call 173; refine (WI.out _ _ _ _).mono ?_; rintro e w2 ⟨rfl, hw2⟩; obtain rfl := hw2.symm)
    all_goals go_ret
    all_goals refine ⟨ret_bool ?_, (HW _).out⟩
    all_goals rw [HE.out]
    all_goals simp [*, beq_dec]
  by_cases k4 : k = 4
  · subst k4
    have HE : Hid (R = (wi b 0 255 && decide (c = 0))) := hide HR.out.symm
    clear HR
    go_wp2_with (go_at_call 173; refine (WI.out _ _ _ _).mono ?_; rintro e w2 ⟨rfl, hw2⟩; obtain rfl := hw2.symm)
    all_goals go_ret
    all_goals refine ⟨ret_bool ?_, (HW _).out⟩
    all_goals rw [HE.out]
    all_goals simp [*, beq_dec]
  by_cases k5 : k = 5
  · subst k5
    have HE : Hid (R = (wi a 1600 64000 && decide (b = 0) && decide (c = 0))) := hide HR.out.symm
    clear HR
    go_wp2_with (go_at_call 173; refine (WI.out _ _ _ _).mono ?_; rintro e w2 ⟨rfl, hw2⟩; obtain rfl := hw2.symm)
    all_goals go_ret
    all_goals refine ⟨ret_bool ?_, (HW _).out⟩
    all_goals rw [HE.out]
    all_goals simp [*, beq_dec]
  by_cases k6 : k = 6
  · subst k6
    have HE : Hid (R = (decide (a = 0) && decide (b = 0) && decide (c = 0))) := hide HR.out.symm
    clear HR
    go_wp2_with (go_at_call 173; refine (WI.out _ _ _ _).mono ?_; rintro e w2 ⟨rfl, hw2⟩; obtain rfl := hw2.symm)
    all_goals go_ret
    all_goals refine ⟨ret_bool ?_, (HW _).out⟩
    all_goals rw [HE.out]
    all_goals simp [*, beq_dec]
  by_cases k7 : k = 7
  · subst k7
    have HE : Hid (R = (decide (a = 0) && decide (b = 0) && decide (c = 0))) := hide HR.out.symm
    clear HR
    go_wp2_with (go_at_call 173; refine (WI.out _ _ _ _).mono ?_; rintro e w2 ⟨rfl, hw2⟩; obtain rfl := hw2.symm)
    all_goals go_ret
    all_goals refine ⟨ret_bool ?_, (HW _).out⟩
    all_goals rw [HE.out]
    all_goals simp [*, beq_dec]
  have HE : Hid (R = false) := hide (by rw [← HR.out]; unfold okK; simp [*])
  clear HR
  go_wp2_with fail
  go_ret
  exact ⟨ret_bool HE.out.symm, (HW _).out⟩
theorem check_any_Mi1 (L : List It) (v : Value) (w : World) (hR : Rws w v 4 itC L) : Calls Tryz.prog 169 #[v] w fun e w' => e = .returned (.int .i64 (chk_MiM L)) ∧ Below w.heap.size w w' := by
  have HR := hide hR
  obtain ⟨mN, na, np, rfl, _⟩ := hR
  obtain ⟨n, eN⟩ : ∃ n, Hid (L.length = n) := ⟨_, hide rfl⟩
  obtain ⟨C, HC⟩ : ∃ C, Hid (chk_MiM L = C) := ⟨_, hide rfl⟩
  rw [HC.out, eN.out]
  rw [eN.out] at mN
  unfold maxLen at mN
  by_cases h64 : 64 < n
  · have HE : Hid (C = 4) := hide (by rw [← HC.out]; unfold chk_MiM; rw [if_pos (by rw [eN.out]; exact h64)])
    have hd : decide ((n : Int) > 64) = true := decide_eq_true (by omega)
    go_enter Tryz.func169, Tryz.ntmps169
    go_wp2_with fail
    go_ret
    exact ⟨ret_int HE.out.symm, Below.refl _ _⟩
  · have HE : Hid (C = chkG n L) := hide (by rw [← HC.out]; unfold chk_MiM; rw [if_neg (by rw [eN.out]; exact h64), eN.out])
    have MB := hide mayBe_any
    have WI := hide within_any_Mi1
    clear HC
    go_enter Tryz.func169, Tryz.ntmps169
    go_wp2_with fail
    go_loopw [10] (fun vi wx => ∃ i : Nat, i ≤ n ∧ vi = .int .i64 (i : Int) ∧ Hid (C = chkG n (L.drop i)) ∧ Hid (Below w.heap.size w wx)) (fun vi _ => n - (intOf vi).toNat)
    case atStart => exact ⟨0, Nat.zero_le _, rfl, HE, hide (Below.refl _ _)⟩
    case round =>
      clear HE
      obtain ⟨i, hi, rfl, HE, Hb⟩ := hrel
      by_cases hl : i < n
      · obtain ⟨g, og, cap, x, e1, hg, hxl, cell⟩ := HR.out.get i (by rw [eN.out]; omega)
        injection e1 with e1 e2 e3
        subst e1 e3
        have HD : Hid (C = if oneE n x = 0 then chkG n (L.drop (i + 1)) else oneE n x) := hide (by rw [HE.out, drop_cons hxl]; rfl)
        have HO : Hid (oneE n x = if okK x.k.toNat x.a x.b x.c = false then 191 else if x.k.toNat = 4 ∧ ¬ (0 ≤ x.a ∧ x.a < n) then 190 else 0) := hide rfl
        have p0 : wr.cell? ⟨g, og + i * 4, none⟩ = some (.int .u8 x.k.toNat) := cell wr Hb.out 0 _ rfl
        have p1 : wr.cell? ⟨g, og + i * 4 + 1, none⟩ = some (.int .i64 x.a) := cell wr Hb.out 1 _ rfl
        have p2 : wr.cell? ⟨g, og + i * 4 + 2, none⟩ = some (.int .i64 x.b) := cell wr Hb.out 2 _ rfl
        have p3 : wr.cell? ⟨g, og + i * 4 + 3, none⟩ = some (.int .i64 x.c) := cell wr Hb.out 3 _ rfl
        clear cell e2 hxl HE
        generalize oneE n x = o at *
        obtain ⟨k, a, b, c⟩ := x
        simp only at *
        generalize k.toNat = K at *
        have MK := hide (MB.out K a b c)
        generalize hok : okK K a b c = ok at *
        have HX := hide (Blk.new wr (iC K a b c) 118)
        replace Hb := hide (below_next Hb.out (Nat.le_refl _) (below_alloc wr (.cells (iC K a b c) 118)))
        go_upto_region 6 with fail
        generalize wr.heap.size = gx at *
        generalize wr.alloc (.cells (iC K a b c) 118) = W1 at *
        clear p0 p1 p2 p3
        obtain ⟨q0, q1, q2, q3⟩ := it_cells HX.out
        go_wp2_with fail
        refine (MK.out _).mono ?_
        rintro e w2 ⟨rfl, hb2⟩
        replace HX := hide (HX.out.after hb2)
        replace Hb := hide (below_next Hb.out (Nat.le_refl _) hb2)
        clear q0 q1 q2 q3 hb2 MK MB hok HR
        obtain ⟨q0, q1, q2, q3⟩ := it_cells HX.out
        cases ok
        · have HC : Hid (C = 191) := hide (by have ho : o = 191 := HO.out; rw [HD.out, if_neg (by omega)]; exact ho)
          clear HD HO WI
          go_wp2_with fail
          go_ret
          exact ⟨ret_int HC.out.symm, Hb.out⟩
        · by_cases hK : (K : Int) = 4
          · have hw : (wi a 0 ((n : Int) - 1) = true → 0 ≤ a ∧ a < n) := fun h => by have := wi_true h; omega
            have hw2 : (wi a 0 ((n : Int) - 1) = false → ¬ (0 ≤ a ∧ a < n)) := fun h h2 => by unfold wi at h; simp at h; omega
            have WX := hide (WI.out a 0 ((n : Int) - 1))
            have HW := hide hw
            have HW2 := hide hw2
            generalize wi a 0 ((n : Int) - 1) = z at *
            clear hw hw2
            cases z
            · have HC : Hid (C = 190) := hide (by have ho : o = 190 := by { rw [HO.out, if_neg (by simp), if_pos ⟨by omega, HW2.out rfl⟩] }; rw [HD.out, if_neg (by omega)]; exact ho)
              clear HD HO WI
              go_wp2_with (go_at_call 173; refine (WX.out _).mono ?_; rintro e w3 ⟨rfl, hw3⟩; obtain rfl := hw3.symm)
              go_ret
              exact ⟨ret_int HC.out.symm, Hb.out⟩
            · have HC : Hid (C = chkG n (L.drop (i + 1))) := hide (by have ho : o = 0 := by { rw [HO.out, if_neg (by simp), if_neg (fun h => h.2 (HW.out rfl))] }; rw [HD.out, if_pos ho])
              clear HD HO WI
              go_wp2_with (go_at_call 173; refine (WX.out _).mono ?_; rintro e w3 ⟨rfl, hw3⟩; obtain rfl := hw3.symm)
              go_roundw
              case rel => exact ⟨i + 1, by omega, by go_num, HC, Hb⟩
              case measure => simp [intOf]; omega
          · have HC : Hid (C = chkG n (L.drop (i + 1))) := hide (by have ho : o = 0 := by { rw [HO.out, if_neg (by simp), if_neg (fun h => hK (by omega))] }; rw [HD.out, if_pos ho])
            clear HD HO WI
            go_wp2_with fail
            go_roundw
            case rel => exact ⟨i + 1, by omega, by go_num, HC, Hb⟩
            case measure => simp [intOf]; omega
      · have e0 : i = n := by omega
        have HC : Hid (C = 0) := hide (by rw [HE.out, e0, ← eN.out, List.drop_length]; rfl)
        clear MB WI HR HE
        go_wp2_with fail
        go_ret
        exact ⟨ret_int HC.out.symm, Hb.out⟩
end Go.Proofs.YtapfaaaepnplcaaGreatDoor
