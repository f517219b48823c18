/- Qsa. -/
import Derived.Test.YtapfaaaepnplcaaGreatDoorG08
import Derived.Test.YtapfaaaepnplcaaGreatDoorG14
import Derived.Test.YtapfaaaepnplcaaGreatDoorG13
import Derived.Deep.DeepCutAuto
set_option maxRecDepth 100000
set_option maxHeartbeats 8000000
namespace Go.Proofs.YtapfaaaepnplcaaGreatDoor
open Go.RowKit Go.Great
/-- behind 'f, _ := msgs.Encode(..)' -/
def SendMid (w0 : World) (fa fb : Int) (fp : ByteArray) (v5 v6 : Value) (wx : World) : Prop :=
  ∃ g, v5 = .pointer (some ⟨g, 0, none⟩) ∧ v6 = .int .i64 0 ∧ Frm wx g (.int .i64 fa) (.int .i64 fb) (.string fp) ∧ Below w0.heap.size w0 wx
theorem cell_set3j {w : World} {R g i : Nat} (h : R ≠ g) (a b c : Value) : (((w.setCell ⟨g, 0, none⟩ a).setCell ⟨g, 1, none⟩ b).setCell ⟨g, 2, none⟩ c).cell? ⟨R, i, none⟩ = w.cell? ⟨R, i, none⟩ :=
  World.cell?_of_block (a := ⟨R, i, none⟩) ((Below.heap_setCell _ _ _ _ h).trans ((Below.heap_setCell _ _ _ _ h).trans (Below.heap_setCell _ _ _ _ h)))
theorem send_one (w : World) (B g : Nat) (c : Nat → Value) (u : Value) (k sq : Int) (ns : List Int) (fp : ByteArray) (hk : 0 ≤ k ∧ k ≤ 255) (hs : 0 ≤ sq ∧ sq ≤ 255) (he : encM sq k ns = ((sq, k, fp), 0)) (hf : fp.size ≤ 64) (hB : BF w B 174 c 90) (h124 : c 124 = .int .i64 sq) (h125 : c 125 = .slice none 0 0) (hM : Msg w g (.int .u8 k) u) (hI : Ints w u ns) (hns : ns.length ≤ 100) :
    Calls Tryz.prog 115 #[.pointer (some ⟨B, 120, none⟩), .slice (some ⟨g, 0, none⟩) 1 1] w fun e w' => e = .returned (.tuple #[]) ∧ ∃ v, BF w' B 174 (updV (updV c 125 v) 124 (.int .i64 ((sq + 1) % 256))) 90 ∧ BRow w' w.heap.size v (encF (sq, k, fp)) ∧ w.grownBy w' (some B) := by
  have hen := fun v w hv => mencode_any sq k hk.1 hk.2 ns v w hv (by omega)
  simp only [he] at hen
  have hfr := fun w => encode_any ((sq, k, fp) : Fr) w
  simp only [encV_right (f := ((sq, k, fp) : Fr)) ⟨hs.1, hs.2, hk.1, hk.2, hf⟩] at hfr
  obtain ⟨au, cu, rfl, _⟩ := id hI
  have HEN := hide hen
  have HFR := hide hfr
  obtain ⟨L, hL⟩ : ∃ L, Hid (encF (sq, k, fp) = L) := ⟨_, hide rfl⟩
  have HLL : Hid (L.length ≤ 70) := hide (by rw [← hL.out, encF_length]; show 6 + fp.size ≤ 70; omega)
  rw [hL.out] at HFR ⊢
  obtain ⟨i0, hi, hz0, hz1, hz2⟩ := info_parts info_byte
  have HB := hide hB
  have HM := hide hM
  have HI := hide hI
  have H4 := hide h124
  have H5 := hide h125
  have HS := hide hs
  clear hen hfr hB hM hI h124 h125 hs he
  go_enter Tryz.func115, Tryz.ntmps115
  go_wp2_with fail
  go_loopw [12] (fun i wx => (i = .int .i64 0 ∧ wx = w) ∨ (i = .int .i64 1 ∧ Hid (∃ v, BF wx B 174 (updV (updV c 125 v) 124 (.int .i64 ((sq + 1) % 256))) 90 ∧ BRow wx w.heap.size v L ∧ w.grownBy wx (some B)))) (fun i _ => 1 - (intOf i).toNat)
  case atStart => exact .inl ⟨rfl, rfl⟩
  case round =>
    rcases hrel with ⟨rfl, hw⟩ | ⟨rfl, HE⟩
    · subst hw
      have m0 := HM.out.c0
      have m1 := HM.out.c1
      go_upto_region 3 with fail
      have HM0 := hide (msg_new wr (.int .u8 k) (.slice au ns.length cu))
      have HX0 := hide (HB.out.after (below_alloc wr (.cells #[.int .u8 k, .slice au ns.length cu] 250)))
      have HI0 := hide (HI.out.below (below_alloc wr (.cells #[.int .u8 k, .slice au ns.length cu] 250)))
      have HB0 := hide (below_alloc wr (.cells #[.int .u8 k, .slice au ns.length cu] 250))
      have hsz : (wr.alloc (.cells #[.int .u8 k, .slice au ns.length cu] 250)).heap.size = wr.heap.size + 1 := size_alloc _ _
      have hBlt : Hid (B < wr.heap.size) := hide HB.out.lt
      clear m0 m1
      generalize wr.alloc (.cells #[.int .u8 k, .slice au ns.length cu] 250) = w0 at HM0 HX0 HI0 HB0 hsz ⊢
      have m0 := HM0.out.c0
      have m1 := HM0.out.c1
      have b4 : w0.cell? ⟨B, 124, none⟩ = some (.int .i64 sq) := HX0.out.cell 124 (by omega) H4.out
      have hlt0 : wr.heap.size < w0.heap.size := by omega
      have HSZ := hide hsz
      have hbl0 : B < w0.heap.size := by have := hBlt.out; omega
      clear hsz HB HM HI
      go_cut [6, 7] (fun v5 v6 wx => SendMid w0 sq k fp v5 v6 wx)
      case first =>
        go_region_held3 (fun wx => wx.cell? ⟨B, 124, none⟩ = some (.int .i64 sq) ∧ wx.cell? ⟨wr.heap.size, 0, none⟩ = some (.int .u8 k) ∧ wx.cell? ⟨wr.heap.size, 1, none⟩ = some (.slice au ns.length cu)) (first | go_keep | exact ⟨(cell_set3j (by have := KB1.out.size; omega) _ _ _).trans q2, (cell_set3j (by have := KB1.out.size; omega) _ _ _).trans q0, (cell_set3j (by have := KB1.out.size; omega) _ _ _).trans q1⟩ | exact ⟨(cell_set3j (by omega) _ _ _).trans q2, (cell_set3j (by omega) _ _ _).trans q0, (cell_set3j (by omega) _ _ _).trans q1⟩) (
          (go_at_call 189; refine (HEN.out _ _ (by first | exact HI0.out.below (Below.refl _ _).drew | exact HI0.out.below (((Below.refl _ _).drew).alloc (Nat.le_refl _) _) | exact HI0.out.below (((Below.refl _ _).alloc (Nat.le_refl _) _).drew))).mono ?_; rintro e w1 ⟨rfl, hB1⟩; have KB1 : Hid (Below w0.heap.size w0 w1) := (by first | exact below_next (Below.refl _ _).drew (Nat.le_refl _) hB1 | exact below_next (((Below.refl _ _).drew).alloc (Nat.le_refl _) _) (Nat.le_refl _) hB1 | exact below_next (((Below.refl _ _).alloc (Nat.le_refl _) _).drew) (Nat.le_refl _) hB1); have q0 := (HM0.out.below KB1.out).c0; have q1 := (HM0.out.below KB1.out).c1; have q2 : w1.cell? ⟨B, 124, none⟩ = some (.int .i64 sq) := (HX0.out.after KB1.out).cell 124 (by omega) H4.out; (first | (have HZ1 : Hid (Frm w1 w0.heap.size (.int .i64 0) (.int .i64 0) (.string ⟨#[]⟩)) := Frm.below (show Frm (w0.drew.alloc (.cells #[.int .i64 0, .int .i64 0, .string ⟨#[]⟩] 324)) _ _ _ _ from frm_new w0.drew _ _ _) hB1; have y0 := HZ1.out.c0; have y1 := HZ1.out.c1; have y2 := HZ1.out.c2; have y3 := HZ1.out.fz) | skip)))
        all_goals go_wp2_with fail
        all_goals go_meet
        all_goals first
          | exact ⟨_, rfl, rfl, frm_new w1 _ _ _, KB1.out.alloc KB1.out.size _⟩
          | exact ⟨_, rfl, rfl, HZ1.out.set _ _ _, below_set3 KB1.out (Nat.le_refl _) _ _ _⟩
      case rest =>
        obtain ⟨gf, rfl, rfl, hF, hb⟩ := hcut
        have HF := hide hF
        have HX1 := hide (HX0.out.after hb)
        have HB1 := hide (below_next HB0.out (Nat.le_refl _) hb)
        clear hF hb m0 m1 b4 hlt0 HSZ hbl0 HM0 HX0 HI0 HB0
        have f0 := HF.out.c0
        have f1 := HF.out.c1
        have f2 := HF.out.c2
        go_wp2_with fail
        refine (HFR.out _).mono ?_
        rintro e w2 ⟨rfl, hb⟩
        have HX2 := hide (HX1.out.after hb)
        have HB2 := hide (below_next HB1.out (Nat.le_refl _) hb)
        clear hb f0 f1 f2 HF HX1 HB1
        have c125 : w2.cell? ⟨B, 125, none⟩ = some (.slice none 0 0) := HX2.out.cell 125 (by omega) H5.out
        have HSL : Hid ((bs L).size ≤ 70) := hide (by rw [bs_size]; exact HLL.out)
        go_wp2_with (at_builtin; refine Lib.wpList_append_own_string _ rfl (.tmp 34) (.tmp 35) 77 9 rfl wr.heap.size 5 i0 Tryz.underlying77 Tryz.underlying9 hi hz0 hz1 hz2 (.slice none 0 0) 0 [] rfl (World.ownsRow_nil _ _ _ _) (bs L) rfl ?p1 ?p2 ?p3 ?_)
        case p1 => unfold maxLen; have := HSL.out; omega
        case p2 => have := HSL.out; omega
        case p3 => exact HB2.out.size
        intro v' w5 hown5 hgrow5 _
        have HR5 : Hid (BRow w5 wr.heap.size v' L) := by
          unfold BRow
          have e1 : Lib.strCells (bs L) = bytesV L := by unfold Lib.strCells bytesV; rw [bs_list]
          simp only [e1, bs_size] at hown5
          exact hown5
        have HX5 : Hid (BF w5 B 174 c 90) := hide (BF.grown HX2.out hgrow5 (by simp [Value.ownBlock]))
        have HB5 : Hid (Below wr.heap.size wr w5) := hide (HB2.out.grown hgrow5 HB2.out.size (fun j e => by cases e))
        obtain ⟨va, vc, rfl⟩ := HR5.out.shape
        clear hown5 hgrow5 c125 HX2 HB2 HSL
        have c125 : w5.cell? ⟨B, 125, none⟩ = some (.slice none 0 0) := HX5.out.cell 125 (by omega) H5.out
        have f125 : w5.frozen? ⟨B, 125, none⟩ = false := HX5.out.fz 125
        have c124 : w5.cell? ⟨B, 124, none⟩ = some (.int .i64 sq) := HX5.out.cell 124 (by omega) H4.out
        have f124 : w5.frozen? ⟨B, 124, none⟩ = false := HX5.out.fz 124
        have hs := HS.out
        go_wp2_with fail
        go_roundw
        case rel =>
          have gs : w5.grownBy ((w5.setCell ⟨B, 125, none⟩ (.slice va L.length vc)).setCell ⟨B, 124, none⟩ (.int .i64 ((sq + 1) % 256))) (some B) := grown_more (grown_set _ _ _ _) (grown_set _ _ _ _)
          exact .inr ⟨by go_num, hide ⟨_, (HX5.out.set 125 _).set 124 _, World.ownsRow.kept HR5.out gs (.inr (blk_apart HR5.out HX5.out (by decide))), grown_then (grown_below HB5.out (some B)) gs (fun k e => .inl (by injection e with e; exact e.symm))⟩⟩
        case measure => simp [intOf]
    · obtain ⟨v, x1, x2, x3⟩ := HE.out
      have X1 := hide x1
      have X2 := hide x2
      have X3 := hide x3
      clear x1 x2 x3 HE
      go_wp2_with fail
      go_end0
      exact ⟨rfl, v, X1.out, X2.out, X3.out⟩
end Go.Proofs.YtapfaaaepnplcaaGreatDoor
