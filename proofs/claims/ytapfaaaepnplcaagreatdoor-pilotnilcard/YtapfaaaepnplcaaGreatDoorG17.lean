/- Qe. -/
import Derived.Test.YtapfaaaepnplcaaGreatDoorG06
import Derived.Test.YtapfaaaepnplcaaGreatDoorG08
import Derived.Lib.Bytealg
import Derived.Laws.Externs
set_option maxRecDepth 100000
set_option maxHeartbeats 2000000
namespace Go.Proofs.YtapfaaaepnplcaaGreatDoor
open Go.RowKit Go.Great
/-- a desk at rest -/
def dE (a b : Int) : Array Value := #[.int .i64 a, .int .i64 b, .int .i64 0, .int .i64 0, .pointer none, .int .i64 0, .int .i64 0]
abbrev DskE (w : World) (D : Nat) (a b : Int) : Prop := Blk w D (dE a b) 312
theorem newDE (w : World) (a b : Int) (h : 0 ≤ a ∧ a ≤ 255 ∧ 1 ≤ b ∧ b ≤ 65535) : Calls Tryz.prog 103 #[.int .i64 a, .int .i64 b] w fun e w' => ∃ D, e = .returned (.tuple #[.pointer (some ⟨D, 0, none⟩), .int .i64 0]) ∧ DskE w' D a b ∧ Below w.heap.size w w' ∧ w.heap.size ≤ D := by
  have HB := hide (Blk.new w (dE a b) 312)
  have Hb := hide (below_alloc w (.cells (dE a b) 312))
  go_enter Tryz.func103, Tryz.ntmps103
  go_wp2_with fail
  go_ret2
  exact ⟨w.heap.size, rfl, HB.out, Hb.out, Nat.le_refl _⟩
theorem takenE (w : World) : Calls Tryz.prog 191 #[.agg #[.int .i64 0, .int .i64 0, .pointer none, .int .i64 0, .int .i64 0]] w fun e w' => e = .returned (.bool false) ∧ Below w.heap.size w w' := by
  go_enter Tryz.func191, Tryz.ntmps191
  go_wp2_with fail
  go_ret
  exact ⟨rfl, below_alloc _ _⟩
theorem tickDE (w : World) (D : Nat) (a b now : Int) (h : DskE w D a b) : Calls Tryz.prog 116 #[.pointer (some ⟨D, 0, none⟩), .int .i64 now] w fun e w' => e = .returned (.slice none 0 0) ∧ Below w.heap.size w w' := by
  have TK := hide takenE
  have c2 : w.cell? ⟨D, 2, none⟩ = some (.int .i64 0) := h.cell 2 rfl
  have c3 : w.cell? ⟨D, 3, none⟩ = some (.int .i64 0) := h.cell 3 rfl
  have c4 : w.cell? ⟨D, 4, none⟩ = some (.pointer none) := h.cell 4 rfl
  have c5 : w.cell? ⟨D, 5, none⟩ = some (.int .i64 0) := h.cell 5 rfl
  have c6 : w.cell? ⟨D, 6, none⟩ = some (.int .i64 0) := h.cell 6 rfl
  clear h
  go_enter Tryz.func116, Tryz.ntmps116
  go_wp2_with fail
  refine (TK.out _).mono ?_
  rintro e w1 ⟨rfl, hb⟩
  go_wp2_with fail
  go_ret
  exact ⟨rfl, hb⟩
theorem place0 (w : World) : Calls Tryz.prog 259 #[.int .i64 0] w fun e w' => e = .returned (.int .i64 0) ∧ w' = w := by
  go_enter Tryz.func259, Tryz.ntmps259
  go_wp2_with fail
  go_ret
  exact ⟨by kernel_rfl, rfl⟩
theorem placeH (w : World) : Calls Tryz.prog 259 #[.int .i64 32768] w fun e w' => e = .returned (.int .i64 32768) ∧ w' = w := by
  go_enter Tryz.func259, Tryz.ntmps259
  go_wp2_with fail
  go_ret
  exact ⟨by kernel_rfl, rfl⟩
theorem wayE (w : World) : Calls Tryz.prog 178 #[.int .i64 0, .int .i64 0] w fun e w' => e = .returned (.int .i64 0) ∧ w' = w := by
  go_enter Tryz.func178, Tryz.ntmps178
  go_wp2_with fail
  refine (place0 _).mono ?_
  rintro e w1 ⟨rfl, h1⟩
  obtain rfl := h1.symm
  go_wp2_with fail
  refine (place0 _).mono ?_
  rintro e w1 ⟨rfl, h1⟩
  obtain rfl := h1.symm
  go_wp2_with fail
  refine (placeH _).mono ?_
  rintro e w1 ⟨rfl, h1⟩
  obtain rfl := h1.symm
  go_wp2_with fail
  go_ret
  exact ⟨rfl, rfl⟩
/-- a reader without bytes -/
def rE : Array Value := #[.string ⟨#[]⟩, .int .i64 0]
abbrev RdrE (w : World) (R : Nat) : Prop := Blk w R rE 214
theorem newRE (w : World) : Calls Tryz.prog 46 #[] w fun e w' => e = .returned (.pointer (some ⟨w.heap.size, 0, none⟩)) ∧ w' = w.alloc (.cells #[.string ⟨#[]⟩, .int .i64 0] 214) := by
  go_enter Tryz.func46, Tryz.ntmps46
  go_wp2
  go_ret
  exact ⟨rfl, rfl⟩
theorem index_fd (w : World) : Calls Tryz.prog 329 #[.string ⟨#[]⟩, .int .u8 253] w fun e w' => e = .returned (.int .i64 (-1)) ∧ w' = w := by
  have hx : ∀ wx : World, (callFunc 394 #[.string ⟨#[]⟩, .int .u8 253]).run Tryz.prog wx = .ok (.value (.int .i64 (-1))) wx := by
    intro wx
    rw [run_callFunc_extern (fn := Tryz.f394) (e := Extern.BytealgIndexByte.indexByte) (by kernel_rfl) (by kernel_rfl) (by kernel_rfl) (by kernel_rfl) (by kernel_rfl)]
    rw [Lib.run_indexByteString]
    rfl
  go_enter Tryz.func329, Tryz.ntmps329
  go_wp2
  go_ret
  exact ⟨rfl, rfl⟩
theorem passE (w : World) (R : Nat) (h : RdrE w R) : Calls Tryz.prog 265 #[.pointer (some ⟨R, 0, none⟩), .int .i64 0] w fun e w' => e = .returned (.tuple #[]) ∧ w' = w := by
  have c0 : w.cell? ⟨R, 0, none⟩ = some (.string ⟨#[]⟩) := h.cell 0 rfl
  have fz := h.frozen 0
  have hs := h.same (k := 0) (v := .string ⟨#[]⟩) rfl
  go_enter Tryz.func265, Tryz.ntmps265
  go_wp2_with fail
  go_end0
  exact ⟨rfl, hs⟩
theorem addE (w : World) (R : Nat) (h : RdrE w R) : Calls Tryz.prog 261 #[.pointer (some ⟨R, 0, none⟩), .string ⟨#[]⟩] w fun e w' => e = .returned (.tuple #[]) ∧ w' = w := by
  have c0 : w.cell? ⟨R, 0, none⟩ = some (.string ⟨#[]⟩) := h.cell 0 rfl
  have fz := h.frozen 0
  have hs := h.same (k := 0) (v := .string ⟨#[]⟩) rfl
  go_enter Tryz.func261, Tryz.ntmps261
  go_wp2_with fail
  go_end0
  exact ⟨rfl, hs⟩
theorem cloneE (w : World) : Calls Tryz.prog 331 #[.string ⟨#[]⟩] w fun e w' => e = .returned (.string ⟨#[]⟩) ∧ w' = w := by
  have hc : Calls Tryz.prog 378 #[.string ⟨#[]⟩] w fun e w' => e = .returned (.string ⟨#[]⟩) ∧ w' = w := by
    go_enter Tryz.func378, Tryz.ntmps378
    go_wp2
    go_ret
    exact ⟨rfl, rfl⟩
  go_enter Tryz.func331, Tryz.ntmps331
  go_wp2_with fail
  refine hc.mono ?_
  rintro e w1 ⟨rfl, h1⟩
  obtain rfl := h1.symm
  go_wp2_with fail
  go_ret
  exact ⟨rfl, rfl⟩
theorem holdE (w : World) (R : Nat) (h : RdrE w R) : Calls Tryz.prog 266 #[.pointer (some ⟨R, 0, none⟩)] w fun e w' => e = .returned (.tuple #[]) ∧ w' = w := by
  have c0 : w.cell? ⟨R, 0, none⟩ = some (.string ⟨#[]⟩) := h.cell 0 rfl
  have fz := h.frozen 0
  have hs := h.same (k := 0) (v := .string ⟨#[]⟩) rfl
  go_enter Tryz.func266, Tryz.ntmps266
  go_wp2_with (go_at_call 331; refine (cloneE _).mono ?_; rintro e w1 ⟨rfl, h1⟩; obtain rfl := h1.symm)
  go_end0
  exact ⟨rfl, by first | exact hs | rfl⟩
theorem seekE (w : World) (R : Nat) (h : RdrE w R) : Calls Tryz.prog 262 #[.pointer (some ⟨R, 0, none⟩)] w fun e w' => e = .returned (.tuple #[]) ∧ w' = w := by
  have c0 : w.cell? ⟨R, 0, none⟩ = some (.string ⟨#[]⟩) := h.cell 0 rfl
  have PS := hide (passE w R h)
  clear h
  go_enter Tryz.func262, Tryz.ntmps262
  go_wp2_with (go_at_call 329; refine (index_fd _).mono ?_; rintro e w1 ⟨rfl, h1⟩; obtain rfl := h1.symm)
  refine PS.out.mono ?_
  rintro e w1 ⟨rfl, h1⟩
  obtain rfl := h1.symm
  go_wp2_with fail
  go_end0
  exact ⟨rfl, rfl⟩
theorem ripeE (w : World) (R : Nat) (h : RdrE w R) : Calls Tryz.prog 263 #[.pointer (some ⟨R, 0, none⟩)] w fun e w' => e = .returned (.bool false) ∧ w' = w := by
  have c0 : w.cell? ⟨R, 0, none⟩ = some (.string ⟨#[]⟩) := h.cell 0 rfl
  clear h
  go_enter Tryz.func263, Tryz.ntmps263
  go_wp2_with fail
  go_ret
  exact ⟨rfl, rfl⟩
theorem feedE (w : World) (R : Nat) (h : RdrE w R) : Calls Tryz.prog 181 #[.pointer (some ⟨R, 0, none⟩), .string ⟨#[]⟩] w fun e w' => e = .returned (.slice none 0 0) ∧ w' = w := by
  have AD := hide (addE w R h)
  have SK := hide (seekE w R h)
  have RP := hide (ripeE w R h)
  have HO := hide (holdE w R h)
  clear h
  go_enter Tryz.func181, Tryz.ntmps181
  go_wp2_with fail
  refine AD.out.mono ?_
  rintro e w1 ⟨rfl, h1⟩
  obtain rfl := h1.symm
  go_wp2_with fail
  refine SK.out.mono ?_
  rintro e w1 ⟨rfl, h1⟩
  obtain rfl := h1.symm
  go_wp2_with fail
  go_loopw [5] (fun v wx => v = .slice none 0 0 ∧ wx = w) (fun _ _ => 0)
  case atStart => exact ⟨rfl, rfl⟩
  case round =>
    obtain ⟨rfl, hw⟩ := hrel
    subst hw
    go_wp2_with fail
    refine RP.out.mono ?_
    rintro e w1 ⟨rfl, h1⟩
    obtain rfl := h1.symm
    go_wp2_with fail
    refine HO.out.mono ?_
    rintro e w1 ⟨rfl, h1⟩
    obtain rfl := h1.symm
    go_wp2_with fail
    go_ret
    exact ⟨rfl, rfl⟩
theorem badE (w : World) (R : Nat) (h : RdrE w R) : Calls Tryz.prog 66 #[.pointer (some ⟨R, 0, none⟩)] w fun e w' => e = .returned (.int .i64 0) ∧ w' = w := by
  have c1 : w.cell? ⟨R, 1, none⟩ = some (.int .i64 0) := h.cell 1 rfl
  clear h
  go_enter Tryz.func66, Tryz.ntmps66
  go_wp2_with fail
  go_ret
  exact ⟨rfl, rfl⟩
end Go.Proofs.YtapfaaaepnplcaaGreatDoor
