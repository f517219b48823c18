/- What package msgs does with a list of widths and bytes: fields. -/
import Derived.Test.YtgdjphiicgiegaaMs5
namespace Go.Proofs.Ytgdjphiicgiegaa
open Go.RowKit Go.Great

/-- a slice of ints of the call's own -/
def IRow (w : World) (base : Nat) (v : Value) (l : List Int) : Prop := w.ownsRow base 3 1 v l.length (l.map (Value.int .i64))
theorem IRow.nil (w : World) (base : Nat) : IRow w base (.slice none 0 0) [] := World.ownsRow_nil _ _ _ _
theorem IRow.below {w w' : World} {base : Nat} {v : Value} {l : List Int} (h : IRow w base v l) (hb : Below w.heap.size w w') : IRow w' base v l := World.ownsRow.kept h (grown_below hb none) (by cases v.ownBlock <;> simp)
theorem IRow.alloc {w : World} {base : Nat} {v : Value} {l : List Int} (h : IRow w base v l) (o : Obj) : IRow (w.alloc o) base v l := h.below (below_alloc _ _)
theorem IRow.shape {w : World} {base : Nat} {v : Value} {l : List Int} (h : IRow w base v l) : ∃ a cap, v = .slice a l.length cap := by
  rcases h.2 with ⟨h1, h2⟩ | ⟨g, cap, cur, h1, _⟩
  · exact ⟨none, 0, by rw [h1, h2]⟩
  · exact ⟨_, cap, h1⟩
theorem IRow.ints {w : World} {base : Nat} {v : Value} {l : List Int} (h : IRow w base v l) : Ints w v l := by
  have h0 := h
  rcases h.2 with ⟨h1, h2⟩ | ⟨g, cap, cur, h1, hb, hh, _⟩
  · have : l = [] := List.eq_nil_of_length_eq_zero h2
    subst this h1
    exact Ints.nil _
  · subst h1
    refine ⟨_, cap, rfl, fun _ => ⟨g, 0, rfl, lt_of_block hh, fun i hi => ?_⟩⟩
    rw [Nat.zero_add, World.ownsRow.cellAt h0 i (by omega)]
    simp [hi]
theorem info_int : (Try.prog.info? 3).map (fun i => (i.zero, i.size, i.bytes)) = some (some (.int .i64 0), 1, 8) := by kernel_rfl
theorem drop_ext (b : ByteArray) (n t : Nat) : (b.extract n b.size).data.toList.drop t = b.data.toList.drop (n + t) := by
  rw [extract_from, bs_list, List.drop_drop]
set_option maxHeartbeats 2000000 in
theorem fields_any (ws : List Int) (hw : ∀ w ∈ ws, Wid w) (hl : ws.length ≤ 7) (v : Value) (b : ByteArray) (hb : b.size = totK ws ws.length) (w : World) (hv : Ints w v (ws.map fun x => 8 * x)) : Calls Try.prog 32 #[v, .string b] w fun e w' => ∃ u, e = .returned u ∧ IRow w' w.heap.size u (fieK ws b.data.toList ws.length) ∧ Below w.heap.size w w' := by
  obtain ⟨i0, hi, hz0, hz1, hz2⟩ := info_parts info_int
  obtain ⟨a, cap, rfl, hc⟩ := hv
  rw [List.length_map] at hc ⊢
  have HC := hide hc
  have HW := hide hw
  have HBZ := hide hb
  obtain ⟨m, hm⟩ : ∃ m, ws.length = m := ⟨_, rfl⟩
  rw [hm] at hl HBZ ⊢
  have HM := hide hm
  clear hc hw hm hb
  go_enter Try.func32, Try.ntmps32
  go_wp2_with fail
  go_loopw [1, 5, 11] (fun s v i wx => ∃ k : Nat, k ≤ m ∧ i = .int .i64 k ∧ s = .string (bs (b.data.toList.drop (totK ws k))) ∧ IRow wx w.heap.size v (fieK ws b.data.toList k) ∧ Below w.heap.size w wx) (fun _ _ i _ => m - (intOf i).toNat)
  case atStart => exact ⟨0, Nat.zero_le _, rfl, by rw [totK, List.drop_zero, bs_of], IRow.nil _ _, Below.refl _ _⟩
  case round =>
    obtain ⟨k, hk, rfl, rfl, hR, hB⟩ := hrel
    have HB := hide hB
    have HR := hide hR
    clear hR hB
    by_cases hlt : k < m
    · have hkw : k < ws.length := by rw [HM.out]; exact hlt
      have hm0 : 0 < ws.length := by omega
      obtain ⟨g, o, rfl, hg, hcc⟩ := HC.out hm0
      have e1 : w.cell? ⟨g, o + k, none⟩ = some (.int .i64 (8 * ws.getD k 0)) := by rw [hcc k hkw, map8_at _ _ hkw]
      have hY := fun W => wbytes_any (ws.getD k 0) (widD HW.out k hkw) _ rfl W
      have hz := (wid_sz (widD HW.out k hkw)).2
      have hmo := totK_mono ws (k + 1) m (by omega)
      have HTS : Hid (totK ws (k + 1) = totK ws k + szW (ws.getD k 0)) := rfl
      rw [HTS.out] at hmo
      obtain ⟨c, HCC⟩ : ∃ c, Hid (bs (b.data.toList.drop (totK ws k)) = c) := ⟨_, rfl⟩
      have hcs : szW (ws.getD k 0) ≤ c.size := by
        rw [← HCC.out, bs_size, List.length_drop, list_size, HBZ.out]; omega
      have HX : Hid (c.extract (szW (ws.getD k 0)) c.size = bs (b.data.toList.drop (totK ws (k + 1)))) := by
        show _ = _
        apply bs_ext
        rw [extract_from, bs_list, bs_list, ← HCC.out, bs_list, List.drop_drop]; rfl
      have hnum := fun W => number_any (ws.getD k 0) (widD HW.out k hkw) (c.extract 0 (szW (ws.getD k 0))) (by rw [← list_size, extract_list, List.length_take, List.drop_zero, list_size]; omega) W
      have HF : Hid (fieK ws b.data.toList (k + 1) = fieK ws b.data.toList k ++ [nuW (ws.getD k 0) (c.extract 0 (szW (ws.getD k 0))).data.toList]) := by
        show _ = _
        rw [fieK, extract_list, ← HCC.out, bs_list, List.drop_zero, Nat.sub_zero]
      have HL : Hid ((fieK ws b.data.toList k).length ≤ 7) := by show _ ≤ _; rw [fieK_len]; omega
      rw [HCC.out]
      generalize 8 * ws.getD k 0 = x at e1 hY hnum
      generalize nuW (ws.getD k 0) (c.extract 0 (szW (ws.getD k 0))).data.toList = nn at hnum HF
      generalize szW (ws.getD k 0) = z at hY hz hcs HX hnum
      have s1 : ∀ wx, (Instr.slice 9 (.string c) none (some (.int .i64 z)) none).run Try.prog wx = .ok (.string (c.extract 0 z)) wx := fun wx => to_run c z hcs wx
      have s2 : ∀ wx, (Instr.slice 9 (.string c) (some (.int .i64 z)) none none).run Try.prog wx = .ok (.string (c.extract z c.size)) wx := fun wx => from_run c z hcs wx
      generalize c.extract 0 z = c1 at s1 hnum
      generalize c.extract z c.size = c2 at s2 HX
      generalize fieK ws b.data.toList k = l at HF HL HR
      have d1 := (HB.out.cell (p := ⟨g, o + k, none⟩) hg).trans e1
      have HO : ∀ o, Hid ((wr.alloc o).ownsRow w.heap.size 3 1 u5 l.length (l.map (Value.int .i64))) := fun o => HR.out.alloc o
      have hws := HB.out.size
      clear hcc HC e1 hcs hmo HTS HCC
      go_wp2_with fail
      refine (hY _).mono ?_
      rintro e w1 ⟨rfl, rfl⟩
      clear d1 hY
      go_wp2_with fail
      refine (hnum _).mono ?_
      rintro e w2 ⟨rfl, rfl⟩
      go_wp2_with (at_builtin; refine wpList_append_own _ rfl (.tmp 17) (.tmp 23) 23 rfl w.heap.size 3 i0 _ 1 8 Try.underlying23 hi hz0 hz1 hz2 rfl (by decide) _ _ _ rfl (HO _).out ⟨w2.heap.size, 0, none⟩ 1 1 [.int .i64 nn] rfl rfl ?c1 ?c2 ?c3 ?c4 ?c5 ?_)
      case c1 => exact new_cell1 _ _ rfl _ _
      case c2 => intro u hu; simp at hu; subst hu; rfl
      case c3 => have := HL.out; unfold maxLen; omega
      case c4 => have := HL.out; omega
      case c5 => rw [size_alloc]; omega
      intro v' w5 hown5 hgrow5 _
      have HR5 : Hid (IRow w5 w.heap.size v' (fieK ws b.data.toList (k + 1))) := by
        show World.ownsRow _ _ _ _ _ _ _
        rw [HF.out, List.length_append, List.map_append]; exact hown5
      have HB5 : Hid (Below w.heap.size w w5) := ((HB.out.alloc hws _).grown hgrow5 (by rw [size_alloc]; omega) (fun j e => ((HO (.cells #[] 3)).out.lt j e).1))
      clear hown5 hgrow5 HO hi hz0 hz1 hz2 s1 hnum
      go_wp2_with fail
      go_roundw
      case rel => exact ⟨k + 1, by omega, by go_num, by rw [HX.out], HR5.out, HB5.out⟩
      case measure => simp [intOf]; omega
    · obtain rfl : k = m := by omega
      clear hi hz0 hz1 hz2
      go_wp2_with fail
      go_ret
      exact ⟨_, rfl, HR.out, HB.out⟩
end Go.Proofs.Ytgdjphiicgiegaa
