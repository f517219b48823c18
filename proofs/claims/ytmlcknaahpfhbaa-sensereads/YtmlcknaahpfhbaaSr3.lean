/- The document's fields. -/
import Derived.Test.YtmlcknaahpfhbaaSr2
import Derived.Test.YtmlcknaahpfhbaaSe7
namespace Go.Proofs.Ytmlcknaahpfhbaa
open Go.RowKit Go.Great

/-- which number the document's Decode takes -/
theorem nuW_cases {x : Int} (hx : Wid x) (l : List UInt8) : ∃ A h : Int, 256 ^ szW x = A ∧ A.tdiv 2 = h ∧ 2 * h = A ∧ A ≤ 4294967296 ∧ 0 < h ∧ ((x < 0 ∧ h ≤ nuK l (szW x) ∧ nuW x l = nuK l (szW x) - A) ∨ (x < 0 ∧ nuK l (szW x) < h ∧ nuW x l = nuK l (szW x)) ∨ (0 ≤ x ∧ nuW x l = nuK l (szW x))) := by
  have hb := nuK_bound l (szW x)
  unfold nuW
  rcases hx with rfl | rfl | rfl | rfl | rfl
  · refine ⟨256, 128, by decide, by decide, by decide, by decide, by decide, .inr (.inr ⟨by decide, ?_⟩)⟩
    rw [if_neg]
    simp only [show szW 1 = 1 from rfl, show (256 : Int) ^ 1 = 256 from rfl, show grW 1 = 255 from rfl] at hb ⊢; omega
  · refine ⟨65536, 32768, by decide, by decide, by decide, by decide, by decide, .inr (.inr ⟨by decide, ?_⟩)⟩
    rw [if_neg]
    simp only [show szW 2 = 2 from rfl, show (256 : Int) ^ 2 = 65536 from rfl, show grW 2 = 65535 from rfl] at hb ⊢; omega
  · refine ⟨4294967296, 2147483648, by decide, by decide, by decide, by decide, by decide, .inr (.inr ⟨by decide, ?_⟩)⟩
    rw [if_neg]
    simp only [show szW 4 = 4 from rfl, show (256 : Int) ^ 4 = 4294967296 from rfl, show grW 4 = 4294967295 from rfl] at hb ⊢; omega
  · refine ⟨65536, 32768, by decide, by decide, by decide, by decide, by decide, ?_⟩
    simp only [show szW (-2) = 2 from rfl, show (256 : Int) ^ 2 = 65536 from rfl, show grW (-2) = 32767 from rfl] at hb ⊢
    by_cases h : 32768 ≤ nuK l 2
    · exact .inl ⟨by decide, h, by rw [if_pos (by omega)]⟩
    · exact .inr (.inl ⟨by decide, by omega, by rw [if_neg (by omega)]⟩)
  · refine ⟨4294967296, 2147483648, by decide, by decide, by decide, by decide, by decide, ?_⟩
    simp only [show szW (-4) = 4 from rfl, show (256 : Int) ^ 4 = 4294967296 from rfl, show grW (-4) = 2147483647 from rfl] at hb ⊢
    by_cases h : 2147483648 ≤ nuK l 4
    · exact .inl ⟨by decide, h, by rw [if_pos (by omega)]⟩
    · exact .inr (.inl ⟨by decide, by omega, by rw [if_neg (by omega)]⟩)
theorem nuW_take (x : Int) (l : List UInt8) : nuW x (l.take (szW x)) = nuW x l := by
  have key : ∀ k, k ≤ szW x → nuK (l.take (szW x)) k = nuK l k := by
    intro k
    induction k with
    | zero => intro _; rfl
    | succ k ih =>
      intro hk
      rw [nuK, nuK, ih (by omega)]
      congr 3
      simp only [List.getD]
      rw [List.getElem?_take, if_pos (by omega)]
  unfold nuW
  rw [key _ (Nat.le_refl _)]
set_option maxRecDepth 100000 in
set_option maxHeartbeats 4000000 in
theorem rfields_any (ws : List Int) (hw : ∀ w ∈ ws, Wid w) (hl : ws.length ≤ 5) (v : Value) (p : ByteArray) (hb : totK ws ws.length ≤ p.size) (hp : p.size ≤ 4611686018427387904) (w : World) (hv : Ints w v ws) : Calls Try.prog 26 #[v, .string p] w fun e w' => ∃ u, e = .returned u ∧ IRow w' w.heap.size u (fieK ws p.data.toList ws.length) ∧ Below w.heap.size w w' := by
  obtain ⟨i0, hi, hz0, hz1, hz2⟩ := info_parts info_int
  have HI := hide hv
  obtain ⟨av, cv, rfl, _⟩ := hv
  have HW := hide hw
  obtain ⟨m, hm⟩ : ∃ m, ws.length = m := ⟨_, rfl⟩
  rw [hm] at hl hb HI ⊢
  have HM := hide hm
  obtain ⟨pl, HPP⟩ : ∃ pl, Hid (p.data.toList = pl) := ⟨_, rfl⟩
  rw [HPP.out]
  clear hw hm
  go_enter Try.func26, Try.ntmps26
  go_wp2_with fail
  go_loopw [5, 6, 7] (fun v a i wx => ∃ j : Nat, j ≤ m ∧ i = .int .i64 j ∧ a = .int .i64 (totK ws j : Nat) ∧ Hid (IRow wx w.heap.size v (fieK ws pl j)) ∧ Hid (Below w.heap.size w wx)) (fun _ _ i _ => m - (intOf i).toNat)
  case atStart => exact ⟨0, Nat.zero_le _, rfl, rfl, hide (IRow.nil _ _), hide (Below.refl _ _)⟩
  case round =>
    obtain ⟨j, hj, rfl, rfl, HRr, HB⟩ := hrel
    obtain ⟨wo, rfl⟩ : ∃ wo, wo = wr := ⟨_, rfl⟩
    have hws := HB.out.size
    by_cases hlt : j < m
    · have hjw : j < ws.length := by rw [HM.out]; exact hlt
      have hwj := widD HW.out j hjw
      obtain ⟨g, o, rfl, hg, e1⟩ := HI.out.at j hjw
      have d1 := (HB.out.cell (p := ⟨g, o + j, none⟩) hg).trans e1
      have hSZ := fun W => rbytes_any (ws.getD j 0) hwj W
      have hz4 := (wid_sz hwj).2
      have hmo := totK_mono ws (j + 1) m (by omega)
      have HTS : Hid (totK ws (j + 1) = totK ws j + szW (ws.getD j 0)) := rfl
      rw [HTS.out] at hmo
      have HFS : Hid (fieK ws pl (j + 1) = fieK ws pl j ++ [nuW (ws.getD j 0) (pl.drop (totK ws j))]) := by
        show _ = _
        rw [fieK, nuW_take]
      have HL : Hid ((fieK ws pl j).length ≤ 5) := by show _ ≤ _; rw [fieK_len]; omega
      have HCS := hide (nuW_cases hwj (pl.drop (totK ws j)))
      have HDG : Hid (∀ t, t < szW (ws.getD j 0) → ∀ h : totK ws j + t < p.size, nuK (pl.drop (totK ws j)) (t + 1) = nuK (pl.drop (totK ws j)) t + (p[totK ws j + t].toNat : Int) * 256 ^ t) := by
        intro t _ h
        rw [nuK]
        congr 3
        rw [← getD_at p _ h, HPP.out]
        simp only [List.getD]
        rw [List.getElem?_drop]
      have HN0 : Hid (nuK (pl.drop (totK ws j)) 0 = 0) := rfl
      have HNB : Hid (∀ t, 0 ≤ nuK (pl.drop (totK ws j)) t ∧ nuK (pl.drop (totK ws j)) t < 256 ^ t) := nuK_bound _
      generalize szW (ws.getD j 0) = z at hSZ hz4 hmo HTS HCS HDG
      generalize nuW (ws.getD j 0) (pl.drop (totK ws j)) = nn at HFS HCS
      generalize ws.getD j 0 = x at d1 e1 hSZ HCS
      generalize nuK (pl.drop (totK ws j)) = nk at HCS HDG HNB HN0
      generalize fieK ws pl j = l at HFS HL HRr
      generalize totK ws j = T at hmo HTS HDG ⊢
      obtain ⟨va, vc, hve⟩ := HRr.out.shape
      subst hve
      clear hwj e1
      go_wp2_with fail
      go_loopw [6, 8, 9, 10] (fun a n un i wx => ∃ t : Nat, t ≤ z ∧ i = .int .i64 t ∧ a = .int .i64 ((T + t : Nat) : Int) ∧ n = .int .i64 (nk t) ∧ un = .int .i64 (256 ^ t) ∧ wx = wo) (fun _ _ _ i _ => z - (intOf i).toNat)
      case atStart => exact ⟨0, Nat.zero_le _, rfl, rfl, by rw [HN0.out], rfl, rfl⟩
      case round =>
        obtain ⟨t, ht, rfl, rfl, rfl, rfl, rfl⟩ := hrel
        by_cases hlt2 : t < z
        · have hend : T + t < p.size := by omega
          have HDt := hide (HDG.out t hlt2 hend)
          have hnb := HNB.out t
          have h4 : t = 0 ∨ t = 1 ∨ t = 2 ∨ t = 3 := by omega
          have hA : (256 : Int) ^ t ≤ 16777216 ∧ 0 < (256 : Int) ^ t := by rcases h4 with rfl | rfl | rfl | rfl <;> decide
          have HPS := hide (p256 t)
          have hby := p[T + t].toNat_lt
          have hmul : (p[T + t].toNat : Int) * 256 ^ t = 256 ^ t * (p[T + t].toNat : Int) := Int.mul_comm _ _
          have hm1 : 0 ≤ (256 : Int) ^ t * (p[T + t].toNat : Int) := Int.mul_nonneg (by omega) (by omega)
          have hm2 : (256 : Int) ^ t * (p[T + t].toNat : Int) ≤ 256 ^ t * 255 := Int.mul_le_mul_of_nonneg_left (by omega) (by omega)
          rw [hmul] at HDt
          clear hmul h4
          generalize (256 : Int) ^ t = A at hA HPS HDt hnb hm1 hm2 ⊢
          generalize nk t = y at HDt hnb ⊢
          generalize hq : T + t = q at hend HDt hm1 hm2 hby ⊢
          have HQ := hide hq
          clear hq
          obtain ⟨b, hb⟩ : ∃ b : Int, (p[q].toNat : Int) = b := ⟨_, rfl⟩
          obtain ⟨Ab, hAb⟩ : ∃ r : Int, A * b = r := ⟨_, rfl⟩
          rw [hb, hAb] at HDt hm1 hm2
          have hAw : IntKind.i64.wrap (A * b) = Ab := by rw [hAb, IntKind.wrap_i64]; omega
          have HAb := hide hAb
          have HBB := hide hb
          go_wp2_with fail
          refine (hSZ _).mono ?_
          rintro e w3 ⟨rfl, rfl⟩
          go_wp2_with fail
          go_roundw
          case rel => exact ⟨t + 1, by omega, by go_num, by rw [← Nat.add_assoc, HQ.out]; go_num, by rw [HDt.out], by rw [HPS.out], trivial⟩
          case measure => simp [intOf]; omega
        · obtain rfl : t = z := by omega
          obtain ⟨A, hh, a1, a2, a3, a4, a5, hcs⟩ := HCS.out
          have hnb := HNB.out t
          rw [a1] at hnb ⊢
          have HTN : Hid (totK ws (j + 1) = T + t) := HTS.out
          generalize T + t = q at HTN hmo ⊢
          generalize nk t = y at hnb hcs ⊢
          have HO : ∀ o, Hid ((wr.alloc o).ownsRow w.heap.size 3 1 (.slice va l.length vc) l.length (l.map (Value.int .i64))) := fun o => HRr.out.alloc o
          clear a1 HTS HCS HDG HNB HN0
          rcases hcs with ⟨b1, b2, b3⟩ | ⟨b1, b2, b3⟩ | ⟨b1, b3⟩
          · have HB3 := hide b3
            clear b3
            go_wp2_with fail
            refine (hSZ _).mono ?_
            rintro e w3 ⟨rfl, rfl⟩
            go_wp2_with (at_builtin; refine wpList_append_own _ rfl (.tmp 52) (.tmp 54) 22 rfl w.heap.size 3 i0 _ 1 8 Try.underlying22 hi hz0 hz1 hz2 rfl (by decide) _ _ _ rfl (HO _).out ⟨w3.heap.size, 0, none⟩ 1 1 [.int .i64 (y - A)] rfl rfl ?c1 ?c2 ?c3 ?c4 ?c5 ?_)
            case c1 => exact new_cell1 _ _ rfl _ _
            case c2 => intro u hu; simp at hu; subst hu; rfl
            case c3 => have := HL.out; unfold maxLen; omega
            case c4 => have := HL.out; omega
            case c5 => rw [size_alloc]; omega
            intro v' w5 hown5 hgrow5 _
            have HR5 : Hid (IRow w5 w.heap.size v' (fieK ws pl (j + 1))) := by
              show World.ownsRow _ _ _ _ _ _ _
              rw [HFS.out, HB3.out, List.length_append, List.map_append]; exact hown5
            have HB5 : Hid (Below w.heap.size w w5) := ((HB.out.alloc hws _).grown hgrow5 (by rw [size_alloc]; omega) (fun j e => ((HO (.cells #[] 3)).out.lt j e).1))
            obtain ⟨va', vc', hva⟩ := HR5.out.shape
            subst hva
            clear hown5 hgrow5 HO hi hz0 hz1 hz2
            go_wp2_with fail
            go_roundw
            case rel => exact ⟨j + 1, by omega, by go_num, by rw [HTN.out], HR5, HB5⟩
            case measure => simp [intOf]; omega
          · have HB3 := hide b3
            clear b3
            go_wp2_with fail
            refine (hSZ _).mono ?_
            rintro e w3 ⟨rfl, rfl⟩
            go_wp2_with (at_builtin; refine wpList_append_own _ rfl (.tmp 52) (.tmp 54) 22 rfl w.heap.size 3 i0 _ 1 8 Try.underlying22 hi hz0 hz1 hz2 rfl (by decide) _ _ _ rfl (HO _).out ⟨w3.heap.size, 0, none⟩ 1 1 [.int .i64 y] rfl rfl ?c1 ?c2 ?c3 ?c4 ?c5 ?_)
            case c1 => exact new_cell1 _ _ rfl _ _
            case c2 => intro u hu; simp at hu; subst hu; rfl
            case c3 => have := HL.out; unfold maxLen; omega
            case c4 => have := HL.out; omega
            case c5 => rw [size_alloc]; omega
            intro v' w5 hown5 hgrow5 _
            have HR5 : Hid (IRow w5 w.heap.size v' (fieK ws pl (j + 1))) := by
              show World.ownsRow _ _ _ _ _ _ _
              rw [HFS.out, HB3.out, List.length_append, List.map_append]; exact hown5
            have HB5 : Hid (Below w.heap.size w w5) := ((HB.out.alloc hws _).grown hgrow5 (by rw [size_alloc]; omega) (fun j e => ((HO (.cells #[] 3)).out.lt j e).1))
            obtain ⟨va', vc', hva⟩ := HR5.out.shape
            subst hva
            clear hown5 hgrow5 HO hi hz0 hz1 hz2
            go_wp2_with fail
            go_roundw
            case rel => exact ⟨j + 1, by omega, by go_num, by rw [HTN.out], HR5, HB5⟩
            case measure => simp [intOf]; omega
          · have HB3 := hide b3
            clear b3
            have b1b : decide (x < 0) = false := decide_eq_false (by omega)
            go_wp2_with fail
            refine (hSZ _).mono ?_
            rintro e w3 ⟨rfl, rfl⟩
            go_wp2_with (at_builtin; refine wpList_append_own _ rfl (.tmp 52) (.tmp 54) 22 rfl w.heap.size 3 i0 _ 1 8 Try.underlying22 hi hz0 hz1 hz2 rfl (by decide) _ _ _ rfl (HO _).out ⟨w3.heap.size, 0, none⟩ 1 1 [.int .i64 y] rfl rfl ?c1 ?c2 ?c3 ?c4 ?c5 ?_)
            case c1 => exact new_cell1 _ _ rfl _ _
            case c2 => intro u hu; simp at hu; subst hu; rfl
            case c3 => have := HL.out; unfold maxLen; omega
            case c4 => have := HL.out; omega
            case c5 => rw [size_alloc]; omega
            intro v' w5 hown5 hgrow5 _
            have HR5 : Hid (IRow w5 w.heap.size v' (fieK ws pl (j + 1))) := by
              show World.ownsRow _ _ _ _ _ _ _
              rw [HFS.out, HB3.out, List.length_append, List.map_append]; exact hown5
            have HB5 : Hid (Below w.heap.size w w5) := ((HB.out.alloc hws _).grown hgrow5 (by rw [size_alloc]; omega) (fun j e => ((HO (.cells #[] 3)).out.lt j e).1))
            obtain ⟨va', vc', hva⟩ := HR5.out.shape
            subst hva
            clear hown5 hgrow5 HO hi hz0 hz1 hz2
            go_wp2_with fail
            go_roundw
            case rel => exact ⟨j + 1, by omega, by go_num, by rw [HTN.out], HR5, HB5⟩
            case measure => simp [intOf]; omega
    · have e : j = m := by omega
      subst e
      obtain ⟨va, vc, hve⟩ := HRr.out.shape
      subst hve
      clear hi hz0 hz1 hz2
      go_wp2_with fail
      go_ret
      exact ⟨_, rfl, HRr.out, HB.out⟩
end Go.Proofs.Ytmlcknaahpfhbaa
