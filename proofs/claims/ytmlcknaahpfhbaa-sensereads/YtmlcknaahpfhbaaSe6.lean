/- Package sense: open, where the check is wrong, and where the frame is good. -/
import Derived.Test.YtmlcknaahpfhbaaSe5
namespace Go.Proofs.Ytmlcknaahpfhbaa
open Go.RowKit Go.Great

set_option maxRecDepth 100000 in
set_option maxHeartbeats 4000000 in
theorem open_check (s : Nat) (l : List UInt8) (hl : l.length ≤ 4611686018427387904) (v : Value) (w : World) (hv : Ints w v (wpS s)) (h : toS s + 3 ≤ l.length) (hk : (l.take (1 + toS s)).getD 0 0 = UInt8.ofNat s) (hs : s < 256) (hc : (l.drop (1 + toS s)).take 2 ≠ [loS (l.take (1 + toS s)), hiS (l.take (1 + toS s))]) : Calls Try.prog 22 #[.int .u8 (s : Int), v, .string (bs l)] w fun e w' => e = .returned (.tuple #[.slice none 0 0, .string ⟨#[]⟩, .bool false]) ∧ Below w.heap.size w w' := by
  have HLL := hide h
  have hmf : ∀ (fn : Fn) (first cap : Array Value) (w : World), (Instr.makeFunc fn first cap).run Try.prog w = .ok (.func fn first cap) w := fun _ _ _ _ => rfl
  have hZ := fun W (hb : Below w.heap.size w W) => msize_any (wsS s) (wsS_wid s) (by have := wsS_len s; omega) v W (hv.below hb)
  have ht := toS_le s
  rw [show totK (wsS s) (wsS s).length = toS s from rfl] at hZ
  have hT := fun B W hR => take_ok l (1 + toS s) hl (by omega) B W hR
  have hT2 := fun B W hR => take_ok (l.drop (1 + toS s)) 2 (by rw [List.length_drop]; omega) (by rw [List.length_drop]; omega) B W hR
  obtain ⟨av, cv, rfl, hcv⟩ := hv
  generalize toS s = t at *
  rw [wpS_len] at *
  generalize (wsS s).length = m at *
  have hsum : (1 : Int) + (t : Int) = ((1 + t : Nat) : Int) := by omega
  generalize hT1 : 1 + t = t1 at *
  have HT1 := hide hT1
  clear hcv hT1 h
  go_enter_defers Try.func22, Try.ntmps22
  go_wp2_with fail
  obtain ⟨W0, hW0, hB, B0, B1, B2, B3, hz⟩ := four_boxes w #[.slice none 0 0] #[.string ⟨#[]⟩] #[.bool false] #[.string (bs l)] 22 9 4 61
  rw [hW0]
  clear hW0
  refine (hZ W0 hB).mono ?_
  rintro e w1 ⟨rfl, hw1⟩
  subst hw1
  go_wp2_with fail
  refine (hT _ _ B3).mono ?_
  rintro e w2 ⟨rfl, hw2⟩
  have hB2 : Below w.heap.size w w2 := by rw [hw2]; exact below_set hB _ _ _ (by omega) (by omega)
  have D0 : Blk w2 w.heap.size #[.slice none 0 0] 22 := by rw [hw2]; exact B0.setOther (by omega) _ _
  have D1 : Blk w2 (w.heap.size + 1) #[.string ⟨#[]⟩] 9 := by rw [hw2]; exact B1.setOther (by omega) _ _
  have D2 : Blk w2 (w.heap.size + 1 + 1) #[.bool false] 4 := by rw [hw2]; exact B2.setOther (by omega) _ _
  have D3 : Rd w2 (w.heap.size + 1 + 1 + 1) (l.drop t1) := by rw [hw2]; exact Rd.set B3 _
  have hz2 : w2.heap.size = w.heap.size + 4 := by rw [hw2, setCell_size]; exact hz
  clear hw2 hB B0 B1 B2 B3 hz
  go_wp2_with fail
  refine (hT2 _ _ D3).mono ?_
  rintro e w3 ⟨rfl, hw3⟩
  have hB3 : Below w.heap.size w w3 := by rw [hw3]; exact below_set hB2 _ _ _ (by omega) (by omega)
  replace D0 : Blk w3 w.heap.size #[.slice none 0 0] 22 := by rw [hw3]; exact D0.setOther (by omega) _ _
  replace D1 : Blk w3 (w.heap.size + 1) #[.string ⟨#[]⟩] 9 := by rw [hw3]; exact D1.setOther (by omega) _ _
  replace D2 : Blk w3 (w.heap.size + 1 + 1) #[.bool false] 4 := by rw [hw3]; exact D2.setOther (by omega) _ _
  have hz3 : w3.heap.size = w.heap.size + 4 := by rw [hw3, setCell_size]; exact hz2
  clear hw3 D3 hB2 hz2
  have c0 := D0.cell 0 rfl
  have c1 := D1.cell 0 rfl
  have c2 := D2.cell 0 rfl
  have f0 := D0.frozen 0
  have f1 := D1.frozen 0
  have f2 := D2.frozen 0
  have hb0 : 0 < (bs (l.take t1)).size := by rw [bs_size, List.length_take]; have := HT1.out; have := HLL.out; omega
  have hx : (((bs (l.take t1))[0].toNat : Int) != (s : Int)) = false := by
    rw [← getD_at (bs (l.take t1)) 0 hb0, bs_list, hk, UInt8.toNat_ofNat', bne_eq_false_iff_eq]
    omega
  have hCK := fun W => check_any (l.take t1) (by rw [List.length_take]; omega) W
  have hsc : ((bs ((l.drop t1).take 2)).toList == (bs [loS (l.take t1), hiS (l.take t1)]).toList) = false := by
    rw [beq_eq_false_iff_ne]
    intro e
    rw [ByteArray.toList_eq, ByteArray.toList_eq, bs_list, bs_list] at e
    exact hc e
  have hsd : ((bs ((l.drop t1).take 2)).toList != (bs [loS (l.take t1), hiS (l.take t1)]).toList) = true := by
    rw [bne, hsc]; rfl
  generalize bs (l.take t1) = bd at *
  generalize bs ((l.drop t1).take 2) = sm at *
  generalize bs [loS (l.take t1), hiS (l.take t1)] = ck at *
  clear c0 c1 c2 f0 f1 f2
  go_wp2_with fail
  refine (hCK _).mono ?_
  rintro e w4 ⟨rfl, hB4⟩
  replace D0 := D0.after hB4
  replace D1 := D1.after hB4
  replace D2 := D2.after hB4
  have hB5 := below_next hB3 (by omega) hB4
  have hz4 := hB4.size
  clear hB4 hCK
  have c0 := D0.cell 0 rfl
  have c1 := D1.cell 0 rfl
  have c2 := D2.cell 0 rfl
  have f0 := D0.frozen 0
  have f1 := D1.frozen 0
  have f2 := D2.frozen 0
  go_wp2_with fail
  refine leaves_cons (f := 33) (args := #[.pointer (some ⟨w.heap.size, 0, none⟩), .pointer (some ⟨w.heap.size + 1, 0, none⟩), .pointer (some ⟨w.heap.size + 1 + 1, 0, none⟩)]) (by simp) (by simp [go_sem]) ?_
  refine (catch_idle _ _ _ _).mono ?_
  rintro e u' w'' ⟨rfl, rfl, rfl⟩
  have L := left3 hB5 w.heap.size (w.heap.size + 1) (w.heap.size + 1 + 1) (by omega) (by omega) (by omega) (by omega) (.slice none 0 0) (.string ⟨#[]⟩) (.bool false)
  have k1 := (((D0.set 0 (.slice none 0 0)).setOther (C := w.heap.size + 1) (by omega) 0 (.string ⟨#[]⟩)).setOther (C := w.heap.size + 1 + 1) (by omega) 0 (.bool false)).cell 0 rfl
  have k2 := (((D1.setOther (C := w.heap.size) (by omega) 0 (.slice none 0 0)).set 0 (.string ⟨#[]⟩)).setOther (C := w.heap.size + 1 + 1) (by omega) 0 (.bool false)).cell 0 rfl
  have k3 := (((D2.setOther (C := w.heap.size) (by omega) 0 (.slice none 0 0)).setOther (C := w.heap.size + 1) (by omega) 0 (.string ⟨#[]⟩)).set 0 (.bool false)).cell 0 rfl
  generalize ((w4.setCell ⟨w.heap.size, 0, none⟩ (.slice none 0 0)).setCell ⟨w.heap.size + 1, 0, none⟩ (.string ⟨#[]⟩)).setCell ⟨w.heap.size + 1 + 1, 0, none⟩ (.bool false) = W1 at *
  simp [Leaves, settle, results, Try.results22, go_sem, k1, k2, k3]
  exact L
theorem Ints.at {w : World} {a : Option Addr} {n c : Nat} {l : List Int} (h : Ints w (.slice a n c) l) (k : Nat) (hk : k < l.length) : ∃ g o, a = some ⟨g, o, none⟩ ∧ g < w.heap.size ∧ w.cell? ⟨g, o + k, none⟩ = some (.int .i64 (l.getD k 0)) := by
  obtain ⟨a', c', e, h1⟩ := h
  injection e with e1 _ _
  obtain ⟨g, o, e2, hg, hc⟩ := h1 (by omega)
  exact ⟨g, o, e1.trans e2, hg, hc k hk⟩
theorem Rd.after {w w' : World} {B : Nat} {l : List UInt8} (h : Rd w B l) (hb : Below w.heap.size w w') : Rd w' B l := Blk.after h hb
/-- while a good frame's fields are read: k of them are -/
structure OpS (w : World) (ws : List Int) (b rest : List UInt8) (B : Nat) (k : Nat) (vn : Value) (wx : World) : Prop where
  row : IRow wx w.heap.size vn (fieK ws b k)
  nb : Blk wx w.heap.size #[vn] 22
  rb : Blk wx (w.heap.size + 1) #[.string ⟨#[]⟩] 9
  gb : Blk wx (w.heap.size + 1 + 1) #[.bool false] 4
  fb : Rd wx (w.heap.size + 1 + 1 + 1) rest
  sb : Rd wx B (b.drop (totK ws k))
  bel : Below w.heap.size w wx
  hB : w.heap.size + 1 + 1 + 1 < B
/-- behind a take of the next field's bytes -/
theorem OpS.took {w : World} {ws : List Int} {b rest : List UInt8} {B k : Nat} {vn : Value} {wx : World} (h : OpS w ws b rest B k vn wx) (m : List UInt8) : IRow (wx.setCell ⟨B, 0, none⟩ (.string (bs m))) w.heap.size vn (fieK ws b k) ∧ Blk (wx.setCell ⟨B, 0, none⟩ (.string (bs m))) w.heap.size #[vn] 22 ∧ Blk (wx.setCell ⟨B, 0, none⟩ (.string (bs m))) (w.heap.size + 1) #[.string ⟨#[]⟩] 9 ∧ Blk (wx.setCell ⟨B, 0, none⟩ (.string (bs m))) (w.heap.size + 1 + 1) #[.bool false] 4 ∧ Rd (wx.setCell ⟨B, 0, none⟩ (.string (bs m))) (w.heap.size + 1 + 1 + 1) rest ∧ Rd (wx.setCell ⟨B, 0, none⟩ (.string (bs m))) B m ∧ Below w.heap.size w (wx.setCell ⟨B, 0, none⟩ (.string (bs m))) := by
  have hB := h.hB
  refine ⟨World.ownsRow.kept h.row (grown_set _ _ _ _) (.inr (blk_apart h.row h.sb (by decide))), h.nb.setOther (by omega) _ _, h.rb.setOther (by omega) _ _, h.gb.setOther (by omega) _ _, Blk.setOther h.fb (by omega) _ _, Rd.set h.sb _, below_set h.bel _ _ _ (by omega) h.bel.size⟩
theorem leaves_tmps {P : Program} {fn : Func} {t1 t2 : Array Value} {R : Ending → World → Prop} (h : results fn t1 = results fn t2) : ∀ (ds : List Deferred) (u : FrameMode) (w : World), Leaves P fn t1 R ds u w → Leaves P fn t2 R ds u w
  | [], .returning, w, ⟨v, h1, h2⟩ => ⟨v, by rw [← h]; exact h1, h2⟩
  | [], .panicking _, _, h1 => h1
  | [], .run, _, h1 => h1
  | d :: ds, u, w, ⟨hu, fv, cap, f, args, e1, e2, h3⟩ => ⟨hu, fv, cap, f, args, e1, e2, h3.mono fun e u' w' h4 => by
      cases e with
      | returned v => exact leaves_tmps h ds _ _ h4
      | panicked c => exact leaves_tmps h ds _ _ h4
      | outgrown => exact h4⟩
theorem put_back (d : Nat) (hd : 9 ≤ d) (v : Value) (R : Ending → World → Prop) (c : List PanicEntry) (a : Act) (w : World) (h : bodyPostD Try.prog Try.f22 R (.panic c) (a.put (some d) v) w) : bodyPostD Try.prog Try.f22 R (.panic c) a w := by
  refine leaves_tmps (t1 := (a.put (some d) v).tmps) ?_ _ _ _ h
  have e6 : (a.tmps.setIfInBounds d v)[6]? = a.tmps[6]? := by rw [Array.getElem?_setIfInBounds_ne (by omega)]
  have e7 : (a.tmps.setIfInBounds d v)[7]? = a.tmps[7]? := by rw [Array.getElem?_setIfInBounds_ne (by omega)]
  have e8 : (a.tmps.setIfInBounds d v)[8]? = a.tmps[8]? := by rw [Array.getElem?_setIfInBounds_ne (by omega)]
  unfold results
  rw [Try.results22]
  simp [Act.put, e6, e7, e8]
/-- behind the append and the store of the next field -/
theorem OpS.next {w : World} {ws : List Int} {b rest : List UInt8} {B k : Nat} {vn v' : Value} {wx w6 w9 : World} {nn : Int} (h : OpS w ws b rest B k vn wx) (hb : Below wx.heap.size (wx.setCell ⟨B, 0, none⟩ (.string (bs (b.drop (totK ws (k + 1)))))) w6) (hF : fieK ws b (k + 1) = fieK ws b k ++ [nn]) (hown : w9.ownsRow w.heap.size 3 1 v' ((fieK ws b k).length + 1) ((fieK ws b k).map (Value.int .i64) ++ [.int .i64 nn])) (hg : w6.grownBy w9 vn.ownBlock) : OpS w ws b rest B (k + 1) v' (w9.setCell ⟨w.heap.size, 0, none⟩ v') ∧ Blk w9 w.heap.size #[vn] 22 := by
  obtain ⟨t1, t2, t3, t4, t5, t6, t7⟩ := h.took (b.drop (totK ws (k + 1)))
  have hB := h.hB
  have hsz : (wx.setCell ⟨B, 0, none⟩ (.string (bs (b.drop (totK ws (k + 1)))))).heap.size = wx.heap.size := setCell_size _ _ _ _
  have hb' : Below (wx.setCell ⟨B, 0, none⟩ (.string (bs (b.drop (totK ws (k + 1)))))).heap.size (wx.setCell ⟨B, 0, none⟩ (.string (bs (b.drop (totK ws (k + 1)))))) w6 := by rw [hsz]; exact hb
  generalize wx.setCell ⟨B, 0, none⟩ (.string (bs (b.drop (totK ws (k + 1))))) = wy at *
  replace t1 := t1.below hb'
  replace t2 := t2.after hb'
  replace t3 := t3.after hb'
  replace t4 := t4.after hb'
  replace t5 := Rd.after t5 hb'
  replace t6 := Rd.after t6 hb'
  have hw6 : Below w.heap.size w w6 := below_next t7 (Nat.le_refl _) hb'
  have a2 := blk_grown t1 t2 (by decide) hg
  have a3 := blk_grown t1 t3 (by decide) hg
  have a4 := blk_grown t1 t4 (by decide) hg
  have a5 := blk_grown t1 t5 (by decide) hg
  have a6 := blk_grown t1 t6 (by decide) hg
  have hw9 : Below w.heap.size w w9 := hw6.grown hg hw6.size (fun j e => (t1.lt j e).1)
  have hrow : IRow w9 w.heap.size v' (fieK ws b (k + 1)) := by
    show World.ownsRow _ _ _ _ _ _ _
    rw [hF, List.length_append, List.map_append]; exact hown
  refine ⟨⟨?_, a2.set 0 v', a3.setOther (by omega) _ _, a4.setOther (by omega) _ _, Blk.setOther a5 (by omega) _ _, Blk.setOther a6 (by omega) _ _, below_set hw9 _ _ _ (Nat.le_refl _) hw9.size, hB⟩, a2⟩
  exact World.ownsRow.kept hrow (grown_set _ _ _ _) (.inr (blk_apart hrow a2 (by decide)))
theorem OpS.done {w : World} {ws : List Int} {b rest : List UInt8} {B k : Nat} {vn : Value} {wx : World} (h : OpS w ws b rest B k vn wx) : IRow (((wx.setCell ⟨w.heap.size, 0, none⟩ vn).setCell ⟨w.heap.size + 1, 0, none⟩ (.string (bs rest))).setCell ⟨w.heap.size + 1 + 1, 0, none⟩ (.bool true)) w.heap.size vn (fieK ws b k) ∧ Below w.heap.size w (((wx.setCell ⟨w.heap.size, 0, none⟩ vn).setCell ⟨w.heap.size + 1, 0, none⟩ (.string (bs rest))).setCell ⟨w.heap.size + 1 + 1, 0, none⟩ (.bool true)) ∧ Blk (((wx.setCell ⟨w.heap.size, 0, none⟩ vn).setCell ⟨w.heap.size + 1, 0, none⟩ (.string (bs rest))).setCell ⟨w.heap.size + 1 + 1, 0, none⟩ (.bool true)) w.heap.size #[vn] 22 ∧ Blk (((wx.setCell ⟨w.heap.size, 0, none⟩ vn).setCell ⟨w.heap.size + 1, 0, none⟩ (.string (bs rest))).setCell ⟨w.heap.size + 1 + 1, 0, none⟩ (.bool true)) (w.heap.size + 1) #[.string (bs rest)] 9 ∧ Blk (((wx.setCell ⟨w.heap.size, 0, none⟩ vn).setCell ⟨w.heap.size + 1, 0, none⟩ (.string (bs rest))).setCell ⟨w.heap.size + 1 + 1, 0, none⟩ (.bool true)) (w.heap.size + 1 + 1) #[.bool true] 4 := by
  have hB := h.hB
  have r1 : IRow (wx.setCell ⟨w.heap.size, 0, none⟩ vn) w.heap.size vn (fieK ws b k) := World.ownsRow.kept h.row (grown_set _ _ _ _) (.inr (blk_apart h.row h.nb (by decide)))
  have b2 := h.rb.setOther (C := w.heap.size) (by omega) 0 vn
  have r2 : IRow ((wx.setCell ⟨w.heap.size, 0, none⟩ vn).setCell ⟨w.heap.size + 1, 0, none⟩ (.string (bs rest))) w.heap.size vn (fieK ws b k) := World.ownsRow.kept r1 (grown_set _ _ _ _) (.inr (blk_apart r1 b2 (by decide)))
  have b3 := (h.gb.setOther (C := w.heap.size) (by omega) 0 vn).setOther (C := w.heap.size + 1) (by omega) 0 (.string (bs rest))
  have hsz := h.bel.size
  refine ⟨World.ownsRow.kept r2 (grown_set _ _ _ _) (.inr (blk_apart r2 b3 (by decide))), left3 h.bel _ _ _ (by omega) (by omega) (by omega) hsz _ _ _, ((h.nb.set 0 vn).setOther (by omega) _ _).setOther (by omega) _ _, (b2.set 0 _).setOther (by omega) _ _, b3.set 0 _⟩
set_option maxRecDepth 100000 in
set_option maxHeartbeats 8000000 in
theorem open_good (s : Nat) (l : List UInt8) (hl : l.length ≤ 4611686018427387904) (v : Value) (w : World) (hv : Ints w v (wpS s)) (h : toS s + 3 ≤ l.length) (hk : (l.take (1 + toS s)).getD 0 0 = UInt8.ofNat s) (hs : s < 256) (hc : (l.drop (1 + toS s)).take 2 = [loS (l.take (1 + toS s)), hiS (l.take (1 + toS s))]) : Calls Try.prog 22 #[.int .u8 (s : Int), v, .string (bs l)] w fun e w' => ∃ vn, e = .returned (.tuple #[vn, .string (bs (l.drop (toS s + 3))), .bool true]) ∧ IRow w' w.heap.size vn (fieK (wsS s) ((l.drop 1).take (toS s)) (wsS s).length) ∧ Below w.heap.size w w' := by
  have HVV := hide hv
  have HTS : Hid (toS s = totK (wsS s) (wsS s).length) := rfl
  have HWD := hide (wsS_wid s)
  have hm5 := wsS_len s
  have HCC := hide hc
  have HKK := hide hk
  clear hc hk
  have HLL := hide h
  have hmf : ∀ (fn : Fn) (first cap : Array Value) (w : World), (Instr.makeFunc fn first cap).run Try.prog w = .ok (.func fn first cap) w := fun _ _ _ _ => rfl
  have hZ := fun W (hb : Below w.heap.size w W) => msize_any (wsS s) (wsS_wid s) (by have := wsS_len s; omega) v W (hv.below hb)
  have ht := toS_le s
  rw [show totK (wsS s) (wsS s).length = toS s from rfl] at hZ
  have hT := fun B W hR => take_ok l (1 + toS s) hl (by omega) B W hR
  have hT2 := fun B W hR => take_ok (l.drop (1 + toS s)) 2 (by rw [List.length_drop]; omega) (by rw [List.length_drop]; omega) B W hR
  obtain ⟨av, cv, rfl, hcv⟩ := hv
  generalize toS s = t at *
  rw [wpS_len] at *
  unfold wpS at HVV
  generalize wsS s = ws at *
  generalize hm : ws.length = m at *
  have HM := hide hm
  clear hm
  have hsum : (1 : Int) + (t : Int) = ((1 + t : Nat) : Int) := by omega
  generalize hT1 : 1 + t = t1 at *
  have HT1 := hide hT1
  clear hcv hT1 h
  go_enter_defers Try.func22, Try.ntmps22
  go_wp2_with fail
  obtain ⟨W0, hW0, hB, B0, B1, B2, B3, hz⟩ := four_boxes w #[.slice none 0 0] #[.string ⟨#[]⟩] #[.bool false] #[.string (bs l)] 22 9 4 61
  rw [hW0]
  clear hW0
  refine (hZ W0 hB).mono ?_
  rintro e w1 ⟨rfl, hw1⟩
  subst hw1
  go_wp2_with fail
  refine (hT _ _ B3).mono ?_
  rintro e w2 ⟨rfl, hw2⟩
  have hB2 : Below w.heap.size w w2 := by rw [hw2]; exact below_set hB _ _ _ (by omega) (by omega)
  have D0 : Blk w2 w.heap.size #[.slice none 0 0] 22 := by rw [hw2]; exact B0.setOther (by omega) _ _
  have D1 : Blk w2 (w.heap.size + 1) #[.string ⟨#[]⟩] 9 := by rw [hw2]; exact B1.setOther (by omega) _ _
  have D2 : Blk w2 (w.heap.size + 1 + 1) #[.bool false] 4 := by rw [hw2]; exact B2.setOther (by omega) _ _
  have D3 : Rd w2 (w.heap.size + 1 + 1 + 1) (l.drop t1) := by rw [hw2]; exact Rd.set B3 _
  have hz2 : w2.heap.size = w.heap.size + 4 := by rw [hw2, setCell_size]; exact hz
  clear hw2 hB B0 B1 B2 B3 hz
  go_wp2_with fail
  refine (hT2 _ _ D3).mono ?_
  rintro e w3 ⟨rfl, hw3⟩
  have hB3 : Below w.heap.size w w3 := by rw [hw3]; exact below_set hB2 _ _ _ (by omega) (by omega)
  replace D0 : Blk w3 w.heap.size #[.slice none 0 0] 22 := by rw [hw3]; exact D0.setOther (by omega) _ _
  replace D1 : Blk w3 (w.heap.size + 1) #[.string ⟨#[]⟩] 9 := by rw [hw3]; exact D1.setOther (by omega) _ _
  replace D2 : Blk w3 (w.heap.size + 1 + 1) #[.bool false] 4 := by rw [hw3]; exact D2.setOther (by omega) _ _
  have hz3 : w3.heap.size = w.heap.size + 4 := by rw [hw3, setCell_size]; exact hz2
  have D3' : Rd w3 (w.heap.size + 1 + 1 + 1) ((l.drop t1).drop 2) := by rw [hw3]; exact Rd.set D3 _
  clear hw3 D3 hB2 hz2
  have c0 := D0.cell 0 rfl
  have c1 := D1.cell 0 rfl
  have c2 := D2.cell 0 rfl
  have f0 := D0.frozen 0
  have f1 := D1.frozen 0
  have f2 := D2.frozen 0
  have hb0 : 0 < (bs (l.take t1)).size := by rw [bs_size, List.length_take]; have := HT1.out; have := HLL.out; omega
  have hx : (((bs (l.take t1))[0].toNat : Int) != (s : Int)) = false := by
    rw [← getD_at (bs (l.take t1)) 0 hb0, bs_list, HKK.out, UInt8.toNat_ofNat', bne_eq_false_iff_eq]
    omega
  have hCK := fun W => check_any (l.take t1) (by rw [List.length_take]; omega) W
  have hsc : ((bs ((l.drop t1).take 2)).toList == (bs [loS (l.take t1), hiS (l.take t1)]).toList) = true := by rw [HCC.out]; simp
  have hsd : ((bs ((l.drop t1).take 2)).toList != (bs [loS (l.take t1), hiS (l.take t1)]).toList) = false := by rw [bne, hsc]; rfl
  have HBD : Hid ((bs (l.take t1)).extract 1 (bs (l.take t1)).size = bs ((l.drop 1).take t)) := hide (by
    rw [ext_drop, ← HT1.out, List.drop_take, show 1 + t - 1 = t by omega])
  have HRS : Hid ((l.drop t1).drop 2 = l.drop (t + 3)) := hide (by rw [List.drop_drop, ← HT1.out]; congr 1; omega)
  rw [HRS.out] at D3'
  have HBL : Hid (((l.drop 1).take t).length = t) := hide (by rw [List.length_take, List.length_drop]; have := HLL.out; omega)
  have hsl : ∀ wx, (Instr.slice 9 (.string (bs (l.take t1))) (some (.int .i64 1)) none none).run Try.prog wx = .ok (.string ((bs (l.take t1)).extract 1 (bs (l.take t1)).size)) wx := fun wx => from_run (bs (l.take t1)) 1 (by omega) wx
  rw [HBD.out] at hsl
  have HTK : Hid (fieK ws ((l.drop 1).take t) m = fieK ws ((l.drop 1).take t) m) := rfl
  generalize bs (l.take t1) = bd at *
  generalize bs ((l.drop t1).take 2) = sm at *
  generalize bs [loS (l.take t1), hiS (l.take t1)] = ck at *
  obtain ⟨b, HBB⟩ : ∃ b, Hid ((l.drop 1).take t = b) := ⟨_, rfl⟩
  rw [HBB.out] at hsl HBL
  obtain ⟨rs, HRR⟩ : ∃ rs, Hid (l.drop (t + 3) = rs) := ⟨_, rfl⟩
  rw [HRR.out] at D3'
  clear c0 c1 c2 f0 f1 f2 HBD HRS HTK
  go_wp2_with fail
  refine (hCK _).mono ?_
  rintro e w4 ⟨rfl, hB4⟩
  replace D0 := D0.after hB4
  replace D1 := D1.after hB4
  replace D2 := D2.after hB4
  replace D3' := D3'.after hB4
  have hB5 := below_next hB3 (by omega) hB4
  have hz4 := hB4.size
  clear hB4 hCK hx hB3
  go_wp2_with fail
  have HST : Hid (OpS w ws b rs w4.heap.size 0 (.slice none 0 0) (w4.alloc (.cells #[.string (bs b)] 61))) := hide ⟨IRow.nil _ _, D0.alloc _, D1.alloc _, D2.alloc _, Blk.alloc D3' _, Blk.new _ _ _, below_next hB5 (Nat.le_refl _) (below_alloc _ _), by omega⟩
  generalize w4.alloc (.cells #[.string (bs b)] 61) = w5 at *
  generalize w4.heap.size = B at *
  clear D0 D1 D2 D3' hB5 hz3 hsl hT hT2 hZ
  go_loopw [38] (fun i wx => ∃ (k : Nat) (vn : Value), k ≤ m ∧ i = .int .i64 k ∧ Hid (OpS w ws b rs B k vn wx)) (fun i _ => m - (intOf i).toNat)
  case atStart => exact ⟨0, _, Nat.zero_le _, rfl, HST⟩
  case round =>
    obtain ⟨k, vn, hk, rfl, HO⟩ := hrel
    by_cases hlt : k < m
    · have hkw : k < ws.length := by rw [HM.out]; exact hlt
      obtain ⟨g, of, rfl, hg, hcc⟩ := (HVV.out.below HO.out.bel).at k (by rw [List.length_map]; exact hkw)
      rw [map8_at _ _ hkw] at hcc
      have hY := fun W => wbytes_any (ws.getD k 0) (widD HWD.out k hkw) _ rfl W
      have hz := (wid_sz (widD HWD.out k hkw)).2
      have hmo := totK_mono ws (k + 1) m (by omega)
      have HTN : Hid (totK ws (k + 1) = totK ws k + szW (ws.getD k 0)) := rfl
      have hln : szW (ws.getD k 0) ≤ (b.drop (totK ws k)).length := by
        rw [List.length_drop, HBL.out, HTS.out]; rw [HTN.out] at hmo; omega
      have hTK := take_ok (b.drop (totK ws k)) (szW (ws.getD k 0)) (by rw [List.length_drop, HBL.out]; omega) hln B
      have hNU := fun W => number_any (ws.getD k 0) (widD HWD.out k hkw) (bs ((b.drop (totK ws k)).take (szW (ws.getD k 0)))) (by rw [bs_size, List.length_take]; omega) W
      rw [bs_list] at hNU
      have HF : Hid (fieK ws b (k + 1) = fieK ws b k ++ [nuW (ws.getD k 0) ((b.drop (totK ws k)).take (szW (ws.getD k 0)))]) := rfl
      have HDN : Hid ((b.drop (totK ws k)).drop (szW (ws.getD k 0)) = b.drop (totK ws (k + 1))) := hide (by rw [List.drop_drop]; rfl)
      rw [HDN.out] at hTK
      have HL : Hid ((fieK ws b k).length ≤ 5) := hide (by rw [fieK_len]; omega)
      obtain ⟨va, vc, hve⟩ := HO.out.row.shape
      have HVE := hide hve
      clear hve
      generalize bs ((b.drop (totK ws k)).take (szW (ws.getD k 0))) = c1 at *
      generalize nuW (ws.getD k 0) ((b.drop (totK ws k)).take (szW (ws.getD k 0))) = nn at *
      generalize 8 * ws.getD k 0 = x at *
      generalize szW (ws.getD k 0) = z at *
      have d0 := HO.out.nb.cell 0 rfl
      obtain ⟨i0, hi, hz0, hz1, hz2⟩ := info_parts info_int
      clear hmo hln
      go_wp2_with fail
      refine wp_region_held_drew (S := fun _ => True) (by kernel_rfl) (trivial) (fun hHeld => ?_)
      refine take_at (i := 1) (v := .int .i64 x) (d := some 43) rfl rfl (by kernel_rfl) (by kernel_rfl) (by kernel_rfl) (fun c a w h => put_back 43 (by decide) _ _ c a w h) (Or.inl ⟨by rfl, fun wS hSw => by go_simp; all_goals (rw [IntKind.wrap_i64]; omega)⟩) (by assumption) ?_
      simp only [Act.put, List.setIfInBounds_toArray, List.set_cons_zero, List.set_cons_succ]
      refine take_at (i := 2) (v := .int .i64 x) (d := some 44) rfl rfl (by kernel_rfl) (by kernel_rfl) (by kernel_rfl) (fun c a w h => put_back 44 (by decide) _ _ c a w h) (Or.inl ⟨by rfl, fun wS hSw => by go_simp; all_goals (rw [IntKind.wrap_i64]; omega)⟩) (by assumption) ?_
      simp only [Act.put, List.setIfInBounds_toArray, List.set_cons_zero, List.set_cons_succ]
      have d0d : wr.drew.cell? ⟨w.heap.size, 0, none⟩ = some vn := d0
      clear hHeld
      refine wpAnyH_ready (rs := [0, 3]) (by kernel_rfl) (by simp) ?_
      refine AllReadyH.cons rfl (fun K hK => ?_) (AllReadyH.cons rfl (fun K hK => ?_) AllReadyH.nil)
      · go_simp
        refine hK.out _ _ (trivial) (fun hHeld => ?_)
        clear hK K hHeld
        refine wpAnyH_ready (rs := [3]) (by kernel_rfl) (by simp) ?_
        refine AllReadyH.cons rfl (fun K hK => ?_) AllReadyH.nil
        go_simp
        refine (hY _).mono ?_
        rintro e w1 ⟨rfl, hw1⟩
        obtain rfl := hw1.symm
        refine hK.out _ _ (trivial) (fun hHeld => ?_)
        clear hK K hHeld
        refine wpAnyH_ready (rs := [4]) (by kernel_rfl) (by simp) ?_
        refine AllReadyH.cons rfl (fun K hK => ?_) AllReadyH.nil
        go_simp
        refine (hTK wr.drew (show Rd wr.drew B _ from HO.out.sb)).mono ?_
        rintro e wt ⟨rfl, hwt⟩
        have d1 : wt.cell? ⟨w.heap.size, 0, none⟩ = some vn := by rw [hwt]; exact (HO.out.took _).2.1.cell 0 rfl
        have HWT := hide hwt
        clear hwt
        refine hK.out _ _ (trivial) (fun hHeld => ?_)
        clear hK K hHeld
        refine wpAnyH_ready (rs := [5]) (by kernel_rfl) (by simp) ?_
        refine AllReadyH.cons rfl (fun K hK => ?_) AllReadyH.nil
        go_simp
        refine (hNU _).mono ?_
        rintro e w1 ⟨rfl, hw1⟩
        obtain rfl := hw1.symm
        refine hK.out _ _ (trivial) (fun hHeld => ?_)
        clear hK K hHeld
        refine wpAnyH_ready (rs := [6]) (by kernel_rfl) (by simp) ?_
        refine AllReadyH.cons rfl (fun K hK => ?_) AllReadyH.nil
        go_simp
        have d6 := ((below_alloc wt (.cells #[.int .i64 nn] 3)).cell (p := ⟨w.heap.size, 0, none⟩) (by have h1 := HO.out.nb.lt; rw [HWT.out, setCell_size]; exact h1)).trans d1
        have hX := below_alloc wt (.cells #[.int .i64 nn] 3)
        have HC2 := fun q u hu => new_cell1 wt wt.heap.size rfl (.int .i64 nn) 3 q u hu
        obtain ⟨W6, hW6⟩ : ∃ W6, wt.alloc (.cells #[.int .i64 nn] 3) = W6 := ⟨_, rfl⟩
        have HBW : Hid (Below wr.heap.size (wr.setCell ⟨B, 0, none⟩ (.string (bs (b.drop (totK ws (k + 1)))))) (wt.alloc (.cells #[.int .i64 nn] 3))) := hide (by
          have h1 := below_alloc wt (.cells #[.int .i64 nn] 3)
          generalize wt.alloc (.cells #[.int .i64 nn] 3) = W at h1
          rw [HWT.out] at h1
          have h2 := below_undrew (w := wr.setCell ⟨B, 0, none⟩ (.string (bs (b.drop (totK ws (k + 1)))))) h1
          rw [setCell_size] at h2
          exact h2)
        rw [hW6] at d6 hX HC2 HBW ⊢
        clear hW6
        refine hK.out _ _ (trivial) (fun hHeld => ?_)
        clear hK K hHeld
        refine wpAnyH_ready (rs := [7]) (by kernel_rfl) (by simp) ?_
        refine AllReadyH.cons rfl (fun K hK => ?_) AllReadyH.nil
        rw [if_pos (by rfl)]
        refine wp_append_own _ (.tmp 42) (.tmp 48) 22 rfl w.heap.size 3 i0 _ 1 8 Try.underlying22 hi hz0 hz1 hz2 rfl (by decide) vn (fieK ws b k).length ((fieK ws b k).map (Value.int .i64)) rfl (by exact ((show IRow wt w.heap.size vn (fieK ws b k) by rw [HWT.out]; exact (HO.out.took _).1).below hX)) ⟨wt.heap.size, 0, none⟩ 1 1 [.int .i64 nn] rfl rfl ?c1 ?c2 ?c3 ?c4 ?c5 ?_
        case c1 => exact HC2
        case c2 => intro u hu; simp at hu; subst hu; rfl
        case c3 => have := HL.out; unfold maxLen; omega
        case c4 => have := HL.out; omega
        case c5 => have h1 := HBW.out.size; have h2 := HO.out.bel.size; rw [setCell_size] at h1; omega
        intro v9 w9 hown9 hgrow9 _
        obtain ⟨hN9, hb9⟩ := HO.out.next HBW.out HF.out hown9 hgrow9
        have e9 := hb9.cell 0 rfl
        have z9 := hb9.frozen 0
        have HN9 := hide hN9
        obtain ⟨va9, vc9, e10⟩ := IRow.shape hN9.row
        subst e10
        clear hown9 hgrow9 hN9 hb9
        simp only [Act.put, List.setIfInBounds_toArray]
        refine hK.out _ _ (trivial) (fun hHeld => ?_)
        clear hK K hHeld
        refine wpAnyH_ready (rs := [8]) (by kernel_rfl) (by simp) ?_
        refine AllReadyH.cons rfl (fun K hK => ?_) AllReadyH.nil
        go_simp
        refine hK.out _ _ (trivial) (fun hHeld => ?_)
        refine wpAnyH_done (by kernel_rfl) ?_ _
        clear hK K hHeld
        go_wp2_with fail
        go_roundw
        case rel => exact ⟨k + 1, _, by omega, by go_num, HN9⟩
        case measure => simp [intOf]; omega
      · go_simp
        refine (hY _).mono ?_
        rintro e w1 ⟨rfl, hw1⟩
        obtain rfl := hw1.symm
        refine hK.out _ _ (trivial) (fun hHeld => ?_)
        clear hK K hHeld
        refine wpAnyH_ready (rs := [0, 4]) (by kernel_rfl) (by simp) ?_
        refine AllReadyH.cons rfl (fun K hK => ?_) (AllReadyH.cons rfl (fun K hK => ?_) AllReadyH.nil)
        · go_simp
          refine hK.out _ _ (trivial) (fun hHeld => ?_)
          clear hK K hHeld
          refine wpAnyH_ready (rs := [4]) (by kernel_rfl) (by simp) ?_
          refine AllReadyH.cons rfl (fun K hK => ?_) AllReadyH.nil
          go_simp
          refine (hTK wr.drew (show Rd wr.drew B _ from HO.out.sb)).mono ?_
          rintro e wt ⟨rfl, hwt⟩
          have d1 : wt.cell? ⟨w.heap.size, 0, none⟩ = some vn := by rw [hwt]; exact (HO.out.took _).2.1.cell 0 rfl
          have HWT := hide hwt
          clear hwt
          refine hK.out _ _ (trivial) (fun hHeld => ?_)
          clear hK K hHeld
          refine wpAnyH_ready (rs := [5]) (by kernel_rfl) (by simp) ?_
          refine AllReadyH.cons rfl (fun K hK => ?_) AllReadyH.nil
          go_simp
          refine (hNU _).mono ?_
          rintro e w1 ⟨rfl, hw1⟩
          obtain rfl := hw1.symm
          refine hK.out _ _ (trivial) (fun hHeld => ?_)
          clear hK K hHeld
          refine wpAnyH_ready (rs := [6]) (by kernel_rfl) (by simp) ?_
          refine AllReadyH.cons rfl (fun K hK => ?_) AllReadyH.nil
          go_simp
          have d6 := ((below_alloc wt (.cells #[.int .i64 nn] 3)).cell (p := ⟨w.heap.size, 0, none⟩) (by have h1 := HO.out.nb.lt; rw [HWT.out, setCell_size]; exact h1)).trans d1
          have hX := below_alloc wt (.cells #[.int .i64 nn] 3)
          have HC2 := fun q u hu => new_cell1 wt wt.heap.size rfl (.int .i64 nn) 3 q u hu
          obtain ⟨W6, hW6⟩ : ∃ W6, wt.alloc (.cells #[.int .i64 nn] 3) = W6 := ⟨_, rfl⟩
          have HBW : Hid (Below wr.heap.size (wr.setCell ⟨B, 0, none⟩ (.string (bs (b.drop (totK ws (k + 1)))))) (wt.alloc (.cells #[.int .i64 nn] 3))) := hide (by
            have h1 := below_alloc wt (.cells #[.int .i64 nn] 3)
            generalize wt.alloc (.cells #[.int .i64 nn] 3) = W at h1
            rw [HWT.out] at h1
            have h2 := below_undrew (w := wr.setCell ⟨B, 0, none⟩ (.string (bs (b.drop (totK ws (k + 1)))))) h1
            rw [setCell_size] at h2
            exact h2)
          rw [hW6] at d6 hX HC2 HBW ⊢
          clear hW6
          refine hK.out _ _ (trivial) (fun hHeld => ?_)
          clear hK K hHeld
          refine wpAnyH_ready (rs := [7]) (by kernel_rfl) (by simp) ?_
          refine AllReadyH.cons rfl (fun K hK => ?_) AllReadyH.nil
          rw [if_pos (by rfl)]
          refine wp_append_own _ (.tmp 42) (.tmp 48) 22 rfl w.heap.size 3 i0 _ 1 8 Try.underlying22 hi hz0 hz1 hz2 rfl (by decide) vn (fieK ws b k).length ((fieK ws b k).map (Value.int .i64)) rfl (by exact ((show IRow wt w.heap.size vn (fieK ws b k) by rw [HWT.out]; exact (HO.out.took _).1).below hX)) ⟨wt.heap.size, 0, none⟩ 1 1 [.int .i64 nn] rfl rfl ?c1 ?c2 ?c3 ?c4 ?c5 ?_
          case c1 => exact HC2
          case c2 => intro u hu; simp at hu; subst hu; rfl
          case c3 => have := HL.out; unfold maxLen; omega
          case c4 => have := HL.out; omega
          case c5 => have h1 := HBW.out.size; have h2 := HO.out.bel.size; rw [setCell_size] at h1; omega
          intro v9 w9 hown9 hgrow9 _
          obtain ⟨hN9, hb9⟩ := HO.out.next HBW.out HF.out hown9 hgrow9
          have e9 := hb9.cell 0 rfl
          have z9 := hb9.frozen 0
          have HN9 := hide hN9
          obtain ⟨va9, vc9, e10⟩ := IRow.shape hN9.row
          subst e10
          clear hown9 hgrow9 hN9 hb9
          simp only [Act.put, List.setIfInBounds_toArray]
          refine hK.out _ _ (trivial) (fun hHeld => ?_)
          clear hK K hHeld
          refine wpAnyH_ready (rs := [8]) (by kernel_rfl) (by simp) ?_
          refine AllReadyH.cons rfl (fun K hK => ?_) AllReadyH.nil
          go_simp
          refine hK.out _ _ (trivial) (fun hHeld => ?_)
          refine wpAnyH_done (by kernel_rfl) ?_ _
          clear hK K hHeld
          go_wp2_with fail
          go_roundw
          case rel => exact ⟨k + 1, _, by omega, by go_num, HN9⟩
          case measure => simp [intOf]; omega
        · go_simp
          refine (hTK wr.drew (show Rd wr.drew B _ from HO.out.sb)).mono ?_
          rintro e wt ⟨rfl, hwt⟩
          have d1 : wt.cell? ⟨w.heap.size, 0, none⟩ = some vn := by rw [hwt]; exact (HO.out.took _).2.1.cell 0 rfl
          have HWT := hide hwt
          clear hwt
          refine hK.out _ _ (trivial) (fun hHeld => ?_)
          clear hK K hHeld
          refine wpAnyH_ready (rs := [0, 5]) (by kernel_rfl) (by simp) ?_
          refine AllReadyH.cons rfl (fun K hK => ?_) (AllReadyH.cons rfl (fun K hK => ?_) AllReadyH.nil)
          · go_simp
            refine hK.out _ _ (trivial) (fun hHeld => ?_)
            clear hK K hHeld
            refine wpAnyH_ready (rs := [5]) (by kernel_rfl) (by simp) ?_
            refine AllReadyH.cons rfl (fun K hK => ?_) AllReadyH.nil
            go_simp
            refine (hNU _).mono ?_
            rintro e w1 ⟨rfl, hw1⟩
            obtain rfl := hw1.symm
            refine hK.out _ _ (trivial) (fun hHeld => ?_)
            clear hK K hHeld
            refine wpAnyH_ready (rs := [6]) (by kernel_rfl) (by simp) ?_
            refine AllReadyH.cons rfl (fun K hK => ?_) AllReadyH.nil
            go_simp
            have d6 := ((below_alloc wt (.cells #[.int .i64 nn] 3)).cell (p := ⟨w.heap.size, 0, none⟩) (by have h1 := HO.out.nb.lt; rw [HWT.out, setCell_size]; exact h1)).trans d1
            have hX := below_alloc wt (.cells #[.int .i64 nn] 3)
            have HC2 := fun q u hu => new_cell1 wt wt.heap.size rfl (.int .i64 nn) 3 q u hu
            obtain ⟨W6, hW6⟩ : ∃ W6, wt.alloc (.cells #[.int .i64 nn] 3) = W6 := ⟨_, rfl⟩
            have HBW : Hid (Below wr.heap.size (wr.setCell ⟨B, 0, none⟩ (.string (bs (b.drop (totK ws (k + 1)))))) (wt.alloc (.cells #[.int .i64 nn] 3))) := hide (by
              have h1 := below_alloc wt (.cells #[.int .i64 nn] 3)
              generalize wt.alloc (.cells #[.int .i64 nn] 3) = W at h1
              rw [HWT.out] at h1
              have h2 := below_undrew (w := wr.setCell ⟨B, 0, none⟩ (.string (bs (b.drop (totK ws (k + 1)))))) h1
              rw [setCell_size] at h2
              exact h2)
            rw [hW6] at d6 hX HC2 HBW ⊢
            clear hW6
            refine hK.out _ _ (trivial) (fun hHeld => ?_)
            clear hK K hHeld
            refine wpAnyH_ready (rs := [7]) (by kernel_rfl) (by simp) ?_
            refine AllReadyH.cons rfl (fun K hK => ?_) AllReadyH.nil
            rw [if_pos (by rfl)]
            refine wp_append_own _ (.tmp 42) (.tmp 48) 22 rfl w.heap.size 3 i0 _ 1 8 Try.underlying22 hi hz0 hz1 hz2 rfl (by decide) vn (fieK ws b k).length ((fieK ws b k).map (Value.int .i64)) rfl (by exact ((show IRow wt w.heap.size vn (fieK ws b k) by rw [HWT.out]; exact (HO.out.took _).1).below hX)) ⟨wt.heap.size, 0, none⟩ 1 1 [.int .i64 nn] rfl rfl ?c1 ?c2 ?c3 ?c4 ?c5 ?_
            case c1 => exact HC2
            case c2 => intro u hu; simp at hu; subst hu; rfl
            case c3 => have := HL.out; unfold maxLen; omega
            case c4 => have := HL.out; omega
            case c5 => have h1 := HBW.out.size; have h2 := HO.out.bel.size; rw [setCell_size] at h1; omega
            intro v9 w9 hown9 hgrow9 _
            obtain ⟨hN9, hb9⟩ := HO.out.next HBW.out HF.out hown9 hgrow9
            have e9 := hb9.cell 0 rfl
            have z9 := hb9.frozen 0
            have HN9 := hide hN9
            obtain ⟨va9, vc9, e10⟩ := IRow.shape hN9.row
            subst e10
            clear hown9 hgrow9 hN9 hb9
            simp only [Act.put, List.setIfInBounds_toArray]
            refine hK.out _ _ (trivial) (fun hHeld => ?_)
            clear hK K hHeld
            refine wpAnyH_ready (rs := [8]) (by kernel_rfl) (by simp) ?_
            refine AllReadyH.cons rfl (fun K hK => ?_) AllReadyH.nil
            go_simp
            refine hK.out _ _ (trivial) (fun hHeld => ?_)
            refine wpAnyH_done (by kernel_rfl) ?_ _
            clear hK K hHeld
            go_wp2_with fail
            go_roundw
            case rel => exact ⟨k + 1, _, by omega, by go_num, HN9⟩
            case measure => simp [intOf]; omega
          · go_simp
            refine (hNU _).mono ?_
            rintro e w1 ⟨rfl, hw1⟩
            obtain rfl := hw1.symm
            refine hK.out _ _ (trivial) (fun hHeld => ?_)
            clear hK K hHeld
            refine wpAnyH_ready (rs := [0, 6]) (by kernel_rfl) (by simp) ?_
            refine AllReadyH.cons rfl (fun K hK => ?_) (AllReadyH.cons rfl (fun K hK => ?_) AllReadyH.nil)
            · go_simp
              refine hK.out _ _ (trivial) (fun hHeld => ?_)
              clear hK K hHeld
              refine wpAnyH_ready (rs := [6]) (by kernel_rfl) (by simp) ?_
              refine AllReadyH.cons rfl (fun K hK => ?_) AllReadyH.nil
              go_simp
              have d6 := ((below_alloc wt (.cells #[.int .i64 nn] 3)).cell (p := ⟨w.heap.size, 0, none⟩) (by have h1 := HO.out.nb.lt; rw [HWT.out, setCell_size]; exact h1)).trans d1
              have hX := below_alloc wt (.cells #[.int .i64 nn] 3)
              have HC2 := fun q u hu => new_cell1 wt wt.heap.size rfl (.int .i64 nn) 3 q u hu
              obtain ⟨W6, hW6⟩ : ∃ W6, wt.alloc (.cells #[.int .i64 nn] 3) = W6 := ⟨_, rfl⟩
              have HBW : Hid (Below wr.heap.size (wr.setCell ⟨B, 0, none⟩ (.string (bs (b.drop (totK ws (k + 1)))))) (wt.alloc (.cells #[.int .i64 nn] 3))) := hide (by
                have h1 := below_alloc wt (.cells #[.int .i64 nn] 3)
                generalize wt.alloc (.cells #[.int .i64 nn] 3) = W at h1
                rw [HWT.out] at h1
                have h2 := below_undrew (w := wr.setCell ⟨B, 0, none⟩ (.string (bs (b.drop (totK ws (k + 1)))))) h1
                rw [setCell_size] at h2
                exact h2)
              rw [hW6] at d6 hX HC2 HBW ⊢
              clear hW6
              refine hK.out _ _ (trivial) (fun hHeld => ?_)
              clear hK K hHeld
              refine wpAnyH_ready (rs := [7]) (by kernel_rfl) (by simp) ?_
              refine AllReadyH.cons rfl (fun K hK => ?_) AllReadyH.nil
              rw [if_pos (by rfl)]
              refine wp_append_own _ (.tmp 42) (.tmp 48) 22 rfl w.heap.size 3 i0 _ 1 8 Try.underlying22 hi hz0 hz1 hz2 rfl (by decide) vn (fieK ws b k).length ((fieK ws b k).map (Value.int .i64)) rfl (by exact ((show IRow wt w.heap.size vn (fieK ws b k) by rw [HWT.out]; exact (HO.out.took _).1).below hX)) ⟨wt.heap.size, 0, none⟩ 1 1 [.int .i64 nn] rfl rfl ?c1 ?c2 ?c3 ?c4 ?c5 ?_
              case c1 => exact HC2
              case c2 => intro u hu; simp at hu; subst hu; rfl
              case c3 => have := HL.out; unfold maxLen; omega
              case c4 => have := HL.out; omega
              case c5 => have h1 := HBW.out.size; have h2 := HO.out.bel.size; rw [setCell_size] at h1; omega
              intro v9 w9 hown9 hgrow9 _
              obtain ⟨hN9, hb9⟩ := HO.out.next HBW.out HF.out hown9 hgrow9
              have e9 := hb9.cell 0 rfl
              have z9 := hb9.frozen 0
              have HN9 := hide hN9
              obtain ⟨va9, vc9, e10⟩ := IRow.shape hN9.row
              subst e10
              clear hown9 hgrow9 hN9 hb9
              simp only [Act.put, List.setIfInBounds_toArray]
              refine hK.out _ _ (trivial) (fun hHeld => ?_)
              clear hK K hHeld
              refine wpAnyH_ready (rs := [8]) (by kernel_rfl) (by simp) ?_
              refine AllReadyH.cons rfl (fun K hK => ?_) AllReadyH.nil
              go_simp
              refine hK.out _ _ (trivial) (fun hHeld => ?_)
              refine wpAnyH_done (by kernel_rfl) ?_ _
              clear hK K hHeld
              go_wp2_with fail
              go_roundw
              case rel => exact ⟨k + 1, _, by omega, by go_num, HN9⟩
              case measure => simp [intOf]; omega
            · go_simp
              have d6 := ((below_alloc wt (.cells #[.int .i64 nn] 3)).cell (p := ⟨w.heap.size, 0, none⟩) (by have h1 := HO.out.nb.lt; rw [HWT.out, setCell_size]; exact h1)).trans d1
              have hX := below_alloc wt (.cells #[.int .i64 nn] 3)
              have HC2 := fun q u hu => new_cell1 wt wt.heap.size rfl (.int .i64 nn) 3 q u hu
              obtain ⟨W6, hW6⟩ : ∃ W6, wt.alloc (.cells #[.int .i64 nn] 3) = W6 := ⟨_, rfl⟩
              have HBW : Hid (Below wr.heap.size (wr.setCell ⟨B, 0, none⟩ (.string (bs (b.drop (totK ws (k + 1)))))) (wt.alloc (.cells #[.int .i64 nn] 3))) := hide (by
                have h1 := below_alloc wt (.cells #[.int .i64 nn] 3)
                generalize wt.alloc (.cells #[.int .i64 nn] 3) = W at h1
                rw [HWT.out] at h1
                have h2 := below_undrew (w := wr.setCell ⟨B, 0, none⟩ (.string (bs (b.drop (totK ws (k + 1)))))) h1
                rw [setCell_size] at h2
                exact h2)
              rw [hW6] at d6 hX HC2 HBW ⊢
              clear hW6
              refine hK.out _ _ (trivial) (fun hHeld => ?_)
              clear hK K hHeld
              refine wpAnyH_ready (rs := [0]) (by kernel_rfl) (by simp) ?_
              refine AllReadyH.cons rfl (fun K hK => ?_) AllReadyH.nil
              go_simp
              refine hK.out _ _ (trivial) (fun hHeld => ?_)
              clear hK K hHeld
              refine wpAnyH_ready (rs := [7]) (by kernel_rfl) (by simp) ?_
              refine AllReadyH.cons rfl (fun K hK => ?_) AllReadyH.nil
              rw [if_pos (by rfl)]
              refine wp_append_own _ (.tmp 42) (.tmp 48) 22 rfl w.heap.size 3 i0 _ 1 8 Try.underlying22 hi hz0 hz1 hz2 rfl (by decide) vn (fieK ws b k).length ((fieK ws b k).map (Value.int .i64)) rfl (by exact ((show IRow wt w.heap.size vn (fieK ws b k) by rw [HWT.out]; exact (HO.out.took _).1).below hX)) ⟨wt.heap.size, 0, none⟩ 1 1 [.int .i64 nn] rfl rfl ?c1 ?c2 ?c3 ?c4 ?c5 ?_
              case c1 => exact HC2
              case c2 => intro u hu; simp at hu; subst hu; rfl
              case c3 => have := HL.out; unfold maxLen; omega
              case c4 => have := HL.out; omega
              case c5 => have h1 := HBW.out.size; have h2 := HO.out.bel.size; rw [setCell_size] at h1; omega
              intro v9 w9 hown9 hgrow9 _
              obtain ⟨hN9, hb9⟩ := HO.out.next HBW.out HF.out hown9 hgrow9
              have e9 := hb9.cell 0 rfl
              have z9 := hb9.frozen 0
              have HN9 := hide hN9
              obtain ⟨va9, vc9, e10⟩ := IRow.shape hN9.row
              subst e10
              clear hown9 hgrow9 hN9 hb9
              simp only [Act.put, List.setIfInBounds_toArray]
              refine hK.out _ _ (trivial) (fun hHeld => ?_)
              clear hK K hHeld
              refine wpAnyH_ready (rs := [8]) (by kernel_rfl) (by simp) ?_
              refine AllReadyH.cons rfl (fun K hK => ?_) AllReadyH.nil
              go_simp
              refine hK.out _ _ (trivial) (fun hHeld => ?_)
              refine wpAnyH_done (by kernel_rfl) ?_ _
              clear hK K hHeld
              go_wp2_with fail
              go_roundw
              case rel => exact ⟨k + 1, _, by omega, by go_num, HN9⟩
              case measure => simp [intOf]; omega
    · have e : k = m := by omega
      subst e
      have c0 := HO.out.nb.cell 0 rfl
      have c1 := HO.out.rb.cell 0 rfl
      have c2 := HO.out.gb.cell 0 rfl
      have c3 := Blk.cell HO.out.fb 0 rfl
      have f0 := HO.out.nb.frozen 0
      have f1 := HO.out.rb.frozen 0
      have f2 := HO.out.gb.frozen 0
      obtain ⟨va, vc, hve⟩ := HO.out.row.shape
      rw [fieK_len] at hve
      subst hve
      have HDN := hide HO.out.done
      go_wp2_with fail
      go_region
      all_goals go_wp2_with fail
      refine leaves_cons (f := 33) (args := #[.pointer (some ⟨w.heap.size, 0, none⟩), .pointer (some ⟨w.heap.size + 1, 0, none⟩), .pointer (some ⟨w.heap.size + 1 + 1, 0, none⟩)]) (by simp) (by simp [go_sem]) ?_
      refine (catch_idle _ _ _ _).mono ?_
      rintro e u' w6 ⟨rfl, rfl, hw6⟩
      obtain ⟨q1, q2, q3, q4, q5⟩ := HDN.out
      have k1 : w6.cell? ⟨w.heap.size, 0, none⟩ = some (.slice va k vc) := by rw [hw6]; exact q3.cell 0 rfl
      have k2 : w6.cell? ⟨w.heap.size + 1, 0, none⟩ = some (.string (bs rs)) := by rw [hw6]; exact q4.cell 0 rfl
      have k3 : w6.cell? ⟨w.heap.size + 1 + 1, 0, none⟩ = some (.bool true) := by rw [hw6]; exact q5.cell 0 rfl
      have L1 : IRow w6 w.heap.size (.slice va k vc) (fieK ws b k) := by rw [hw6]; exact q1
      have L2 : Below w.heap.size w w6 := by rw [hw6]; exact q2.drew
      refine ⟨.tuple #[.slice va k vc, .string (bs rs), .bool true], ?_, .slice va k vc, by rw [HRR.out], by rw [show List.take t (List.drop 1 l) = b from HBB.out]; exact L1, L2⟩
      simp [results, Try.results22, go_sem, k1, k2, k3]
end Go.Proofs.Ytmlcknaahpfhbaa
