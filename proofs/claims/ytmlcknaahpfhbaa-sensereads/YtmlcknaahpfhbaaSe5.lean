/- Package sense: open, where bytes end too early, and where a frame is not good. -/
import Derived.Test.YtmlcknaahpfhbaaSe4
namespace Go.Proofs.Ytmlcknaahpfhbaa
open Go.RowKit Go.Great

theorem four_boxes (w : World) (A B C D : Array Value) (t u v x : TypeId) : ∃ W0, (((w.alloc (.cells A t)).alloc (.cells B u)).alloc (.cells C v)).alloc (.cells D x) = W0 ∧ Below w.heap.size w W0 ∧ Blk W0 w.heap.size A t ∧ Blk W0 (w.heap.size + 1) B u ∧ Blk W0 (w.heap.size + 1 + 1) C v ∧ Blk W0 (w.heap.size + 1 + 1 + 1) D x ∧ W0.heap.size = w.heap.size + 4 := by
  obtain ⟨W1, h, b, B1, B2, B3, hz⟩ := three_boxes w A B C t u v
  refine ⟨_, rfl, ?_, ?_, ?_, ?_, ?_, ?_⟩
  · rw [h]; exact below_next b (Nat.le_refl _) (below_alloc _ _)
  · rw [h]; exact B1.alloc _
  · rw [h]; exact B2.alloc _
  · rw [h]; exact B3.alloc _
  · have := Blk.new W1 D x; rw [hz] at this; rw [h]; exact this
  · rw [h, size_alloc, hz]
/-- what the panic leaves -/
theorem left3 {w W : World} {n : Nat} (hb : Below n w W) (g1 g2 g3 : Nat) (h1 : n ≤ g1) (h2 : n ≤ g2) (h3 : n ≤ g3) (hn : n ≤ W.heap.size) (x y z : Value) : Below n w (((W.setCell ⟨g1, 0, none⟩ x).setCell ⟨g2, 0, none⟩ y).setCell ⟨g3, 0, none⟩ z) := by
  refine below_set (below_set (below_set hb _ _ _ h1 hn) _ _ _ h2 ?_) _ _ _ h3 ?_
  all_goals simp only [setCell_size]; exact hn
set_option maxRecDepth 100000 in
set_option maxHeartbeats 4000000 in
theorem open_short1 (s : Nat) (l : List UInt8) (v : Value) (w : World) (hv : Ints w v (wpS s)) (h : l.length < 1 + toS s) : Calls Try.prog 22 #[.int .u8 (s : Int), v, .string (bs l)] w fun e w' => e = .returned (.tuple #[.slice none 0 0, .string ⟨#[]⟩, .bool false]) ∧ Below w.heap.size w w' := by
  have hmf : ∀ (fn : Fn) (first cap : Array Value) (w : World), (Instr.makeFunc fn first cap).run Try.prog w = .ok (.func fn first cap) w := fun _ _ _ _ => rfl
  have hZ := fun W (hb : Below w.heap.size w W) => msize_any (wsS s) (wsS_wid s) (by have := wsS_len s; omega) v W (hv.below hb)
  have ht := toS_le s
  rw [show totK (wsS s) (wsS s).length = toS s from rfl] at hZ
  have hT := fun B W hR => take_short l (1 + toS s) (by omega) B W hR
  obtain ⟨av, cv, rfl, hcv⟩ := hv
  generalize toS s = t at *
  rw [wpS_len] at *
  generalize (wsS s).length = m at *
  have hsum : (1 : Int) + (t : Int) = ((1 + t : Nat) : Int) := by omega
  generalize hT1 : 1 + t = t1 at *
  have HT1 := hide hT1
  clear hcv h hT1
  go_enter_defers Try.func22, Try.ntmps22
  go_wp2_with fail
  obtain ⟨W0, hW0, hB, B0, B1, B2, B3, hz⟩ := four_boxes w #[.slice none 0 0] #[.string ⟨#[]⟩] #[.bool false] #[.string (bs l)] 22 9 4 61
  rw [hW0]
  clear hW0
  refine (hZ W0 hB).mono ?_
  rintro e w1 ⟨rfl, hw1⟩
  subst hw1
  go_wp2_with fail
  refine (hT _ _ B3).mono ?_
  rintro e w2 ⟨rfl, hw2⟩
  subst hw2
  go_wp2_with fail
  refine leaves_cons (f := 33) (args := #[.pointer (some ⟨w.heap.size, 0, none⟩), .pointer (some ⟨w.heap.size + 1, 0, none⟩), .pointer (some ⟨w.heap.size + 1 + 1, 0, none⟩)]) (by simp) (by simp [go_sem]) ?_
  unfold early
  refine (catch_panicking _ _ _ 9 _ [] _ _ _ _ B0 B1 B2 (by omega) (by omega) (by omega)).mono ?_
  rintro e u' w'' ⟨rfl, rfl, rfl⟩
  have L := left3 hB w.heap.size (w.heap.size + 1) (w.heap.size + 1 + 1) (by omega) (by omega) (by omega) (by omega) (.slice none 0 0) (.string ⟨#[]⟩) (.bool false)
  have k1 := (((B0.set 0 (.slice none 0 0)).setOther (C := w.heap.size + 1) (by omega) 0 (.string ⟨#[]⟩)).setOther (C := w.heap.size + 1 + 1) (by omega) 0 (.bool false)).cell 0 rfl
  have k2 := (((B1.setOther (C := w.heap.size) (by omega) 0 (.slice none 0 0)).set 0 (.string ⟨#[]⟩)).setOther (C := w.heap.size + 1 + 1) (by omega) 0 (.bool false)).cell 0 rfl
  have k3 := (((B2.setOther (C := w.heap.size) (by omega) 0 (.slice none 0 0)).setOther (C := w.heap.size + 1) (by omega) 0 (.string ⟨#[]⟩)).set 0 (.bool false)).cell 0 rfl
  generalize ((w2.setCell ⟨w.heap.size, 0, none⟩ (.slice none 0 0)).setCell ⟨w.heap.size + 1, 0, none⟩ (.string ⟨#[]⟩)).setCell ⟨w.heap.size + 1 + 1, 0, none⟩ (.bool false) = W1 at *
  simp [Leaves, settle, results, Try.results22, go_sem, k1, k2, k3]
  exact L
set_option maxRecDepth 100000 in
set_option maxHeartbeats 4000000 in
theorem open_short2 (s : Nat) (l : List UInt8) (hl : l.length ≤ 4611686018427387904) (v : Value) (w : World) (hv : Ints w v (wpS s)) (h : 1 + toS s ≤ l.length ∧ l.length < toS s + 3) : Calls Try.prog 22 #[.int .u8 (s : Int), v, .string (bs l)] w fun e w' => e = .returned (.tuple #[.slice none 0 0, .string ⟨#[]⟩, .bool false]) ∧ Below w.heap.size w w' := by
  have hmf : ∀ (fn : Fn) (first cap : Array Value) (w : World), (Instr.makeFunc fn first cap).run Try.prog w = .ok (.func fn first cap) w := fun _ _ _ _ => rfl
  have hZ := fun W (hb : Below w.heap.size w W) => msize_any (wsS s) (wsS_wid s) (by have := wsS_len s; omega) v W (hv.below hb)
  have ht := toS_le s
  rw [show totK (wsS s) (wsS s).length = toS s from rfl] at hZ
  have hT := fun B W hR => take_ok l (1 + toS s) hl (by omega) B W hR
  have hT2 := fun B W hR => take_short (l.drop (1 + toS s)) 2 (by rw [List.length_drop]; omega) B W hR
  obtain ⟨av, cv, rfl, hcv⟩ := hv
  generalize toS s = t at *
  rw [wpS_len] at *
  generalize (wsS s).length = m at *
  have hsum : (1 : Int) + (t : Int) = ((1 + t : Nat) : Int) := by omega
  generalize hT1 : 1 + t = t1 at *
  have HT1 := hide hT1
  clear hcv hT1 h
  go_enter_defers Try.func22, Try.ntmps22
  go_wp2_with fail
  obtain ⟨W0, hW0, hB, B0, B1, B2, B3, hz⟩ := four_boxes w #[.slice none 0 0] #[.string ⟨#[]⟩] #[.bool false] #[.string (bs l)] 22 9 4 61
  rw [hW0]
  clear hW0
  refine (hZ W0 hB).mono ?_
  rintro e w1 ⟨rfl, hw1⟩
  subst hw1
  go_wp2_with fail
  refine (hT _ _ B3).mono ?_
  rintro e w2 ⟨rfl, hw2⟩
  have hB2 : Below w.heap.size w w2 := by rw [hw2]; exact below_set hB _ _ _ (by omega) (by omega)
  have D0 : Blk w2 w.heap.size #[.slice none 0 0] 22 := by rw [hw2]; exact B0.setOther (by omega) _ _
  have D1 : Blk w2 (w.heap.size + 1) #[.string ⟨#[]⟩] 9 := by rw [hw2]; exact B1.setOther (by omega) _ _
  have D2 : Blk w2 (w.heap.size + 1 + 1) #[.bool false] 4 := by rw [hw2]; exact B2.setOther (by omega) _ _
  have D3 : Rd w2 (w.heap.size + 1 + 1 + 1) (l.drop t1) := by rw [hw2]; exact Rd.set B3 _
  have hz2 : w2.heap.size = w.heap.size + 4 := by rw [hw2, setCell_size]; exact hz
  clear hw2 hB B0 B1 B2 B3 hz
  go_wp2_with fail
  refine (hT2 _ _ D3).mono ?_
  rintro e w3 ⟨rfl, hw3⟩
  subst hw3
  go_wp2_with fail
  refine leaves_cons (f := 33) (args := #[.pointer (some ⟨w.heap.size, 0, none⟩), .pointer (some ⟨w.heap.size + 1, 0, none⟩), .pointer (some ⟨w.heap.size + 1 + 1, 0, none⟩)]) (by simp) (by simp [go_sem]) ?_
  unfold early
  refine (catch_panicking _ _ _ 9 _ [] _ _ _ _ D0 D1 D2 (by omega) (by omega) (by omega)).mono ?_
  rintro e u' w'' ⟨rfl, rfl, rfl⟩
  have L := left3 hB2 w.heap.size (w.heap.size + 1) (w.heap.size + 1 + 1) (by omega) (by omega) (by omega) (by omega) (.slice none 0 0) (.string ⟨#[]⟩) (.bool false)
  have k1 := (((D0.set 0 (.slice none 0 0)).setOther (C := w.heap.size + 1) (by omega) 0 (.string ⟨#[]⟩)).setOther (C := w.heap.size + 1 + 1) (by omega) 0 (.bool false)).cell 0 rfl
  have k2 := (((D1.setOther (C := w.heap.size) (by omega) 0 (.slice none 0 0)).set 0 (.string ⟨#[]⟩)).setOther (C := w.heap.size + 1 + 1) (by omega) 0 (.bool false)).cell 0 rfl
  have k3 := (((D2.setOther (C := w.heap.size) (by omega) 0 (.slice none 0 0)).setOther (C := w.heap.size + 1) (by omega) 0 (.string ⟨#[]⟩)).set 0 (.bool false)).cell 0 rfl
  generalize ((w3.setCell ⟨w.heap.size, 0, none⟩ (.slice none 0 0)).setCell ⟨w.heap.size + 1, 0, none⟩ (.string ⟨#[]⟩)).setCell ⟨w.heap.size + 1 + 1, 0, none⟩ (.bool false) = W1 at *
  simp [Leaves, settle, results, Try.results22, go_sem, k1, k2, k3]
  exact L
set_option maxRecDepth 100000 in
set_option maxHeartbeats 4000000 in
theorem open_kind (s : Nat) (l : List UInt8) (hl : l.length ≤ 4611686018427387904) (v : Value) (w : World) (hv : Ints w v (wpS s)) (h : toS s + 3 ≤ l.length) (hk : (l.take (1 + toS s)).getD 0 0 ≠ UInt8.ofNat s) (hs : s < 256) : Calls Try.prog 22 #[.int .u8 (s : Int), v, .string (bs l)] w fun e w' => e = .returned (.tuple #[.slice none 0 0, .string ⟨#[]⟩, .bool false]) ∧ Below w.heap.size w w' := by
  have HLL := hide h
  have hmf : ∀ (fn : Fn) (first cap : Array Value) (w : World), (Instr.makeFunc fn first cap).run Try.prog w = .ok (.func fn first cap) w := fun _ _ _ _ => rfl
  have hZ := fun W (hb : Below w.heap.size w W) => msize_any (wsS s) (wsS_wid s) (by have := wsS_len s; omega) v W (hv.below hb)
  have ht := toS_le s
  rw [show totK (wsS s) (wsS s).length = toS s from rfl] at hZ
  have hT := fun B W hR => take_ok l (1 + toS s) hl (by omega) B W hR
  have hT2 := fun B W hR => take_ok (l.drop (1 + toS s)) 2 (by rw [List.length_drop]; omega) (by rw [List.length_drop]; omega) B W hR
  obtain ⟨av, cv, rfl, hcv⟩ := hv
  generalize toS s = t at *
  rw [wpS_len] at *
  generalize (wsS s).length = m at *
  have hsum : (1 : Int) + (t : Int) = ((1 + t : Nat) : Int) := by omega
  generalize hT1 : 1 + t = t1 at *
  have HT1 := hide hT1
  clear hcv hT1 h
  go_enter_defers Try.func22, Try.ntmps22
  go_wp2_with fail
  obtain ⟨W0, hW0, hB, B0, B1, B2, B3, hz⟩ := four_boxes w #[.slice none 0 0] #[.string ⟨#[]⟩] #[.bool false] #[.string (bs l)] 22 9 4 61
  rw [hW0]
  clear hW0
  refine (hZ W0 hB).mono ?_
  rintro e w1 ⟨rfl, hw1⟩
  subst hw1
  go_wp2_with fail
  refine (hT _ _ B3).mono ?_
  rintro e w2 ⟨rfl, hw2⟩
  have hB2 : Below w.heap.size w w2 := by rw [hw2]; exact below_set hB _ _ _ (by omega) (by omega)
  have D0 : Blk w2 w.heap.size #[.slice none 0 0] 22 := by rw [hw2]; exact B0.setOther (by omega) _ _
  have D1 : Blk w2 (w.heap.size + 1) #[.string ⟨#[]⟩] 9 := by rw [hw2]; exact B1.setOther (by omega) _ _
  have D2 : Blk w2 (w.heap.size + 1 + 1) #[.bool false] 4 := by rw [hw2]; exact B2.setOther (by omega) _ _
  have D3 : Rd w2 (w.heap.size + 1 + 1 + 1) (l.drop t1) := by rw [hw2]; exact Rd.set B3 _
  have hz2 : w2.heap.size = w.heap.size + 4 := by rw [hw2, setCell_size]; exact hz
  clear hw2 hB B0 B1 B2 B3 hz
  go_wp2_with fail
  refine (hT2 _ _ D3).mono ?_
  rintro e w3 ⟨rfl, hw3⟩
  have hB3 : Below w.heap.size w w3 := by rw [hw3]; exact below_set hB2 _ _ _ (by omega) (by omega)
  replace D0 : Blk w3 w.heap.size #[.slice none 0 0] 22 := by rw [hw3]; exact D0.setOther (by omega) _ _
  replace D1 : Blk w3 (w.heap.size + 1) #[.string ⟨#[]⟩] 9 := by rw [hw3]; exact D1.setOther (by omega) _ _
  replace D2 : Blk w3 (w.heap.size + 1 + 1) #[.bool false] 4 := by rw [hw3]; exact D2.setOther (by omega) _ _
  have hz3 : w3.heap.size = w.heap.size + 4 := by rw [hw3, setCell_size]; exact hz2
  clear hw3 D3 hB2 hz2
  have c0 := D0.cell 0 rfl
  have c1 := D1.cell 0 rfl
  have c2 := D2.cell 0 rfl
  have f0 := D0.frozen 0
  have f1 := D1.frozen 0
  have f2 := D2.frozen 0
  have hb0 : 0 < (bs (l.take t1)).size := by rw [bs_size, List.length_take]; have := HT1.out; have := HLL.out; omega
  have hx : (((bs (l.take t1))[0].toNat : Int) != (s : Int)) = true := by
    rw [← getD_at (bs (l.take t1)) 0 hb0, bs_list]
    rw [bne_iff_ne]
    intro e
    apply hk
    apply UInt8.toNat_inj.1
    rw [UInt8.toNat_ofNat']
    omega
  generalize bs (l.take t1) = bd at *
  generalize bs ((l.drop t1).take 2) = sm at *
  go_wp2_with fail
  refine leaves_cons (f := 33) (args := #[.pointer (some ⟨w.heap.size, 0, none⟩), .pointer (some ⟨w.heap.size + 1, 0, none⟩), .pointer (some ⟨w.heap.size + 1 + 1, 0, none⟩)]) (by simp) (by simp [go_sem]) ?_
  refine (catch_idle _ _ _ _).mono ?_
  rintro e u' w'' ⟨rfl, rfl, rfl⟩
  have L := left3 hB3 w.heap.size (w.heap.size + 1) (w.heap.size + 1 + 1) (by omega) (by omega) (by omega) (by omega) (.slice none 0 0) (.string ⟨#[]⟩) (.bool false)
  have k1 := (((D0.set 0 (.slice none 0 0)).setOther (C := w.heap.size + 1) (by omega) 0 (.string ⟨#[]⟩)).setOther (C := w.heap.size + 1 + 1) (by omega) 0 (.bool false)).cell 0 rfl
  have k2 := (((D1.setOther (C := w.heap.size) (by omega) 0 (.slice none 0 0)).set 0 (.string ⟨#[]⟩)).setOther (C := w.heap.size + 1 + 1) (by omega) 0 (.bool false)).cell 0 rfl
  have k3 := (((D2.setOther (C := w.heap.size) (by omega) 0 (.slice none 0 0)).setOther (C := w.heap.size + 1) (by omega) 0 (.string ⟨#[]⟩)).set 0 (.bool false)).cell 0 rfl
  generalize ((w3.setCell ⟨w.heap.size, 0, none⟩ (.slice none 0 0)).setCell ⟨w.heap.size + 1, 0, none⟩ (.string ⟨#[]⟩)).setCell ⟨w.heap.size + 1 + 1, 0, none⟩ (.bool false) = W1 at *
  simp [Leaves, settle, results, Try.results22, go_sem, k1, k2, k3]
  exact L
end Go.Proofs.Ytmlcknaahpfhbaa
