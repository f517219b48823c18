/- Qpk. -/
import Derived.Test.YtapfaaaepnplcaaGreatDoorG29
import Derived.Test.YtapfaaaepnplcaaGreatDoorG31
import Derived.Test.YtapfaaaepnplcaaGreatDoorG39
set_option maxRecDepth 100000
set_option maxHeartbeats 8000000
namespace Go.Proofs.YtapfaaaepnplcaaGreatDoor
open Go.RowKit Go.Great
theorem steerBy_any (w : World) (B g vc : Nat) (c : Nat → Value) (h : BF w B 174 c 90) (hv : Vals w g dfl) : Calls Tryz.prog 51 #[.pointer (some ⟨B, 126, none⟩), .slice (some ⟨g, 0, none⟩) 24 vc] w fun e w' => e = .returned (.tuple #[]) ∧ ∃ S W, Blk W S #[.int .i64 12, .int .i64 0, .int .i64 0, .int .i64 0] 307 ∧ Below w.heap.size w W ∧ w.heap.size ≤ S ∧ w' = W.setCell ⟨B, 128, none⟩ (pt S) := by
  have HV : Hid (Ints w (.slice (some ⟨g, 0, none⟩) 24 vc) dfl) := hide (hv.ints vc)
  have HH := hide h
  clear h hv
  go_enter Tryz.func51, Tryz.ntmps51
  go_wp2_with fail
  refine (newS_any _ dfl _ HV.out (sound_of (by decide))).mono ?_
  rintro e w1 ⟨S, rfl, hS, hb, hs⟩
  have HS : Hid (Blk w1 S #[.int .i64 12, .int .i64 0, .int .i64 0, .int .i64 0] 307) := hide hS
  have HB := hide hb
  have H1 := hide (HH.out.after hb)
  have c0 : w1.cell? ⟨B, 128, none⟩ = some (c 128) := H1.out.cell 128 (by omega) rfl
  have f0 : w1.frozen? ⟨B, 128, none⟩ = false := H1.out.fz 128
  clear hS hb HH HV
  go_wp2_with fail
  go_end0
  exact ⟨rfl, S, w1, HS.out, HB.out, hs, rfl⟩
theorem restart_any (w : World) (B : Nat) (c : Nat → Value) (h : BF w B 174 c 90) : Calls Tryz.prog 52 #[.pointer (some ⟨B, 126, none⟩), .int .i64 16000, .slice none 0 0] w fun e w' => e = .returned (.tuple #[]) ∧ ∃ R W, (∃ x m, Blk W R #[x, .int .i64 0, .int .i64 16000, .int .i64 0, .map (some m)] 164) ∧ Below w.heap.size w W ∧ w.heap.size ≤ R ∧ w' = W.setCell ⟨B, 127, none⟩ (pt R) := by
  have HR : Hid (Rws w (.slice none 0 0) 4 itC []) := hide ⟨by simp, none, 0, rfl, by simp⟩
  have HH := hide h
  clear h
  go_enter Tryz.func52, Tryz.ntmps52
  go_wp2_with fail
  refine (new_any_Mi3 16000 [] _ _ HR.out).mono ?_
  rintro e w1 ⟨hb, hx⟩
  rcases hx with ⟨hx, _⟩ | ⟨_, R, rfl, hs, x, m, hR, _, _⟩
  · exact absurd (show chk_MiM [] = 0 from rfl) hx
  have HS : Hid (Blk w1 R #[x, .int .i64 0, .int .i64 16000, .int .i64 0, .map (some m)] 164) := hide hR
  have HB := hide hb
  have H1 := hide (HH.out.after hb)
  have c0 : w1.cell? ⟨B, 127, none⟩ = some (c 127) := H1.out.cell 127 (by omega) rfl
  have f0 : w1.frozen? ⟨B, 127, none⟩ = false := H1.out.fz 127
  clear hR hb HH HR
  go_wp2_with fail
  go_end0
  exact ⟨rfl, R, w1, ⟨x, m, HS.out⟩, HB.out, hs, rfl⟩
end Go.Proofs.YtapfaaaepnplcaaGreatDoor
