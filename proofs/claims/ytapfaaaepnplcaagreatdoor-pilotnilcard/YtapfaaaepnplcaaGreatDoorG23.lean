/- Qt, Qp1, Qp2, Qp5, Qp6, Qp7, Qp8, Qp9, Qpa. -/
import Derived.Test.YtapfaaaepnplcaaGreatDoorG06
import Derived.Test.YtapfaaaepnplcaaGreatDoorG16
import Derived.Test.YtapfaaaepnplcaaGreatDoorG17
import Derived.Test.YtapfaaaepnplcaaGreatDoorG08
import Derived.Test.YtapfaaaepnplcaaGreatDoorG21
import Derived.Test.YtapfaaaepnplcaaGreatDoorG22
set_option maxRecDepth 100000
namespace Go.Proofs.YtapfaaaepnplcaaGreatDoor
open Go.RowKit Go.Great
/-- where a pilot's parts lie, and what a tick changes -/
structure Ad where
  B : Nat
  S : Nat
  V : Nat → Nat
  F : Nat → Nat
  Cm : Nat
  Ba : Nat
  Rd : Nat
  Dg : Nat
  D1 : Nat
  D2 : Nat
  Mc : Nat
  Rn : Nat
  St : Nat
  De : Nat
  Pl : Nat
  Jg : Nat
  Vg : Nat
  vc : Nat
  dc : Nat
  jc : Nat
  bk : Nat
  le : Int
  si : Int
  out : Value
  sq : Int
/-- the parameters by default -/
def dfl : List Int := [6, 20, 4, 20, 4, 2, 12, 16000, 8000, 8000, 5000, 2000, 1000, 500, 4000, 400, 8, 1000, 100, 1, 2, 500, 4000, 800]
/-- the pilot's cells -/
def forL (a : Ad) : List Value := [pt a.S, .slice (some ⟨a.Vg, 0, none⟩) 24 a.vc, .bool false, .int .i64 58, .int .i64 12, .int .i64 258, .int .i64 16398, .int .i64 701, .int .i64 4, .slice none 0 0, .slice none 0 0, .int .i64 0, .int .i64 0, .slice none 0 0, .bool false]
def senL (a : Ad) : List Value := senR 30 ++ [.bool false, .int .i64 0, .int .i64 0, .int .i64 0, .bool false, .int .i64 65535, .int .i64 0, .int .i64 0, .int .i64 0, .int .i64 0, pt (a.V 0), pt (a.V 1), pt (a.V 2), pt (a.V 3), pt (a.V 4), pt (a.V 5), pt (a.V 6), pt (a.V 7), pt (a.V 8), pt (a.V 9)] ++ senR 10 ++ [pt (a.F 0), pt (a.F 1), pt (a.F 2), pt a.Cm, pt a.Ba]
def lnkL (a : Ad) : List Value := [pt a.Rd, .slice (some ⟨a.Dg, 0, none⟩) 2 a.dc, .int .i64 65535, .int .i64 0, .int .i64 a.sq, a.out]
def fliL (a : Ad) : List Value := [pt a.Mc, pt a.Rn, pt a.St, pt a.bk, pt a.De, .int .i64 0, .bool false, .int .i64 a.le, .int .i64 a.si, .int .i64 0, .int .i64 0, .int .i64 0, .int .i64 0, .int .i64 0, .int .i64 0, .int .i64 0, .int .i64 0, .int .i64 0, .int .i64 0, .bool false, .bool false, .bool false, .bool false, .int .i64 0, .int .i64 0, .int .i64 0, .int .i64 0, .int .i64 0, .int .i64 0, .int .i64 0, .int .i64 0, .int .i64 0, .int .i64 0, .int .i64 0]
def pilL (a : Ad) : List Value := forL a ++ senL a ++ lnkL a ++ fliL a ++ [pt a.Pl, .slice (some ⟨a.Jg, 0, none⟩) 7 a.jc] ++ List.replicate 12 (.string ⟨#[]⟩)
def pilF (a : Ad) : Nat → Value := fun k => (pilL a).getD k undef
theorem pil_len (a : Ad) : (pilL a).length = 174 := rfl
/-- a row of 24 numbers that stands -/
def Vals (w : World) (g : Nat) (l : List Int) : Prop := ∃ cs fr, w.heap[g]? = some (.cells cs 3 fr) ∧ ∀ i, i < l.length → cs[i]? = some (.int .i64 (l.getD i 0))
theorem Vals.cell {w : World} {g : Nat} {l : List Int} (h : Vals w g l) (i : Nat) (hi : i < l.length) {x : Int} (hx : l.getD i 0 = x) : w.cell? ⟨g, i, none⟩ = some (.int .i64 x) := by
  obtain ⟨cs, fr, h1, h2⟩ := h
  subst hx
  simp [World.cell?, h1, h2 i hi]
/-- the jobs of a pilot -/
def jbsV (B : Nat) : Array Value := #[.int .i64 1, .int .i64 0, .int .i64 0, .func (.func 56) #[pt B] #[], .int .i64 1, .int .i64 0, .int .i64 1, .func (.func 57) #[pt B] #[], .int .i64 1, .int .i64 0, .int .i64 2, .func (.func 58) #[pt B] #[], .int .i64 4, .int .i64 0, .int .i64 3, .func (.func 59) #[pt B] #[], .int .i64 1, .int .i64 0, .int .i64 4, .func (.func 60) #[pt B] #[], .int .i64 40, .int .i64 0, .int .i64 5, .func (.func 61) #[pt B] #[], .int .i64 80, .int .i64 20, .int .i64 6, .func (.func 62) #[pt B] #[]]
/-- what a booted pilot's blocks hold; w0 is the world before, whose blocks below b0 stand -/
structure Bt (w0 : World) (b0 : Nat) (w : World) (a : Ad) : Prop where
  P : BF w a.B 174 (pilF a) 90
  V : ∀ i, i < 10 → ∃ p, VotE w (a.V i) 8 p
  F : ∀ i, i < 3 → FilE w (a.F i) 8
  Cm : ComE w a.Cm 8
  Ba : Blk w a.Ba (bC (bN dfl)) 172
  Rd : RdrE w a.Rd
  Dg : Blk w a.Dg #[pt a.D1, .int .i64 1, .func (.func 54) #[pt a.B] #[], pt a.D2, .int .i64 2, .func (.func 55) #[pt a.B] #[]] 153
  D1 : DskE w a.D1 1 64
  D2 : DskE w a.D2 2 73
  Mc : Blk w a.Mc #[.int .u8 0, .int .i64 0] 161
  Rn : ∃ x m, Blk w a.Rn #[x, .int .i64 0, .int .i64 16000, .int .i64 0, .map (some m)] 164
  St : Blk w a.St #[.int .i64 12, .int .i64 0, .int .i64 0, .int .i64 0] 307
  De : Blk w a.De #[.func (.func 96) #[.int .i64 2] #[], .int .i64 0] 222
  Bk : Blk w a.bk #[.func (.func 95) #[] #[], .int .i64 0] 218
  Vg : Vals w a.Vg dfl
  Pl : ∃ t q, Blk w a.Pl #[.int .i64 t, q] 124
  Jb : Blk w a.Jg (jbsV a.B) 94
  ext : w0.grownBy w (some a.B)
  lo : b0 ≤ a.B ∧ b0 ≤ a.Pl
/-- only new blocks, and those of a pilot's own that stay as they were -/
theorem Vals.after {w w' : World} {g : Nat} {l : List Int} (h : Vals w g l) (hb : Below w.heap.size w w') : Vals w' g l := by
  obtain ⟨cs, fr, h1, h2⟩ := h
  exact ⟨cs, fr, (hb.block g (Array.getElem?_eq_some_iff.1 h1).1).trans h1, h2⟩
theorem Bt.after {w0 : World} {b0 : Nat} {w w' : World} {a : Ad} (h : Bt w0 b0 w a) (hb : Below w.heap.size w w') : Bt w0 b0 w' a where
  P := h.P.after hb
  V := fun i hi => (h.V i hi).imp fun _ q => Blk.after q hb
  F := fun i hi => Blk.after (h.F i hi) hb
  Cm := Blk.after h.Cm hb
  Ba := h.Ba.after hb
  Rd := Blk.after h.Rd hb
  Dg := h.Dg.after hb
  D1 := Blk.after h.D1 hb
  D2 := Blk.after h.D2 hb
  Mc := h.Mc.after hb
  Rn := h.Rn.imp fun _ q => q.imp fun _ q => q.after hb
  St := h.St.after hb
  De := h.De.after hb
  Bk := h.Bk.after hb
  Vg := h.Vg.after hb
  Pl := h.Pl.imp fun _ q => q.imp fun _ q => q.after hb
  Jb := h.Jb.after hb
  ext := grown_after h.ext hb
  lo := h.lo
theorem Bt.drew {w0 : World} {b0 : Nat} {w : World} {a : Ad} (h : Bt w0 b0 w a) : Bt w0 b0 w.drew a := h.after (Below.refl _ _).drew
theorem Bt.drewN {w0 : World} {b0 : Nat} {w : World} {a : Ad} (h : Bt w0 b0 w a) (n : Nat) : Bt w0 b0 (w.drewN n) a := h.after (below_drewN (Below.refl _ _) n)
theorem Bt.at {w0 : World} {b0 : Nat} {w : World} {a : Ad} (h : Bt w0 b0 w a) (k : Nat) (v : Value) (hk : k < 174) (hv : pilF a k = v) : w.cell? ⟨a.B, k, none⟩ = some v := h.P.cell k hk hv
theorem Bt.fz {w0 : World} {b0 : Nat} {w : World} {a : Ad} (h : Bt w0 b0 w a) (k : Nat) : w.frozen? ⟨a.B, k, none⟩ = false := h.P.fz k
theorem Bt.eq {w0 : World} {b0 : Nat} {w : World} {a : Ad} (h : Bt w0 b0 w a) (k : Nat) (v : Value) (hk : k < 174) (hv : pilF a k = v) : w.setCell ⟨a.B, k, none⟩ v = w := h.P.same k hk hv
theorem Bt.val {w0 : World} {b0 : Nat} {w : World} {a : Ad} (h : Bt w0 b0 w a) (k : Nat) {x : Int} (hk : k < 24) (hx : dfl.getD k 0 = x) : w.cell? ⟨a.Vg, k, none⟩ = some (.int .i64 x) := h.Vg.cell k hk hx
theorem below_two {w w1 w2 : World} (h1 : Below w.heap.size w w1) (h2 : Below w1.heap.size w1 w2) : Below w.heap.size w w2 := below_next h1 (Nat.le_refl _) h2
end Go.Proofs.YtapfaaaepnplcaaGreatDoor
set_option maxRecDepth 100000
set_option maxHeartbeats 4000000
namespace Go.Proofs.YtapfaaaepnplcaaGreatDoor
open Go.RowKit Go.Great
theorem read_no {w0 : World} {b0 : Nat} {w : World} {a : Ad} (h : Bt w0 b0 w a) (k : Nat) (hk : 1 ≤ k ∧ k ≤ 5) : Calls Tryz.prog 179 #[.pointer (some ⟨a.B, 15, none⟩), .int .u8 (k : Int), noS] w fun e w' => e = .returned (.tuple #[.slice none 0 0, .bool false]) ∧ Below w.heap.size w w' := by
  have HH := hide h
  clear h
  go_enter Tryz.func179, Tryz.ntmps179
  go_wp2_with fail
  refine (readE k hk _).mono ?_
  rintro e w1 ⟨rfl, hb⟩
  have h1 := HH.out.after hb
  have c := h1.at 78 (.int .i64 0) (by omega) rfl
  have f := h1.fz 78
  have q := h1.eq 78 (.int .i64 0) (by omega) rfl
  have HB := hide hb
  clear h1 hb HH
  go_wp2_with fail
  go_ret2
  exact ⟨rfl, HB.out⟩
theorem readUnit_no {w0 : World} {b0 : Nat} {w : World} {a : Ad} (h : Bt w0 b0 w a) (u f : Int) (k : Nat) (hk : 1 ≤ k ∧ k ≤ 5) : Calls Tryz.prog 177 #[.pointer (some ⟨a.B, 15, none⟩), .int .i64 u, .int .i64 f, .int .u8 (k : Int), noS] w fun e w' => e = .returned (.tuple #[]) ∧ Below w.heap.size w w' := by
  have HH := hide h
  clear h
  go_enter Tryz.func177, Tryz.ntmps177
  go_wp2_with fail
  refine (read_no HH.out k hk).mono ?_
  rintro e w1 ⟨rfl, hb⟩
  have HB := hide hb
  clear hb HH
  go_wp2_with fail
  go_loopw [23] (fun v wx => v = .int .i64 0 ∧ wx = w1) (fun _ _ => 0)
  case atStart => exact ⟨rfl, rfl⟩
  case round =>
    obtain ⟨rfl, hw⟩ := hrel
    subst hw
    go_wp2_with fail
    go_end0
    exact ⟨rfl, HB.out⟩
theorem older_max (w : World) : Calls Tryz.prog 180 #[.int .i64 65535] w fun e w' => e = .returned (.int .i64 65535) ∧ w' = w := by
  go_enter Tryz.func180, Tryz.ntmps180
  go_wp2_with fail
  go_ret
  exact ⟨rfl, rfl⟩
theorem readRemote_no {w0 : World} {b0 : Nat} {w : World} {a : Ad} (h : Bt w0 b0 w a) : Calls Tryz.prog 109 #[.pointer (some ⟨a.B, 15, none⟩), noS] w fun e w' => e = .returned (.int .i64 0) ∧ Below w.heap.size w w' := by
  have HH := hide h
  clear h
  go_enter Tryz.func109, Tryz.ntmps109
  go_wp2_with fail
  refine (read_no HH.out 4 (by omega)).mono ?_
  rintro e w1 ⟨rfl, hb⟩
  have h1 := HH.out.after hb
  have c := h1.at 80 (.int .i64 65535) (by omega) rfl
  have f := h1.fz 80
  have q := h1.eq 80 (.int .i64 65535) (by omega) rfl
  have HB := hide hb
  clear h1 hb HH
  go_wp2_with fail
  refine (older_max _).mono ?_
  rintro e w2 ⟨rfl, hw⟩
  obtain rfl := hw.symm
  go_wp2_with fail
  go_ret
  exact ⟨rfl, HB.out⟩
theorem readMotors_no {w0 : World} {b0 : Nat} {w : World} {a : Ad} (h : Bt w0 b0 w a) : Calls Tryz.prog 111 #[.pointer (some ⟨a.B, 15, none⟩), noS] w fun e w' => e = .returned (.tuple #[]) ∧ Below w.heap.size w w' := by
  have HH := hide h
  have c0 := h.at 75 (.bool false) (by omega) rfl
  have c1 := h.at 76 (.int .i64 0) (by omega) rfl
  have f0 := h.fz 75
  have f1 := h.fz 76
  have q0 := h.eq 75 (.bool false) (by omega) rfl
  have q1 := h.eq 76 (.int .i64 0) (by omega) rfl
  clear h
  go_enter Tryz.func111, Tryz.ntmps111
  go_wp2_with fail
  refine (read_no HH.out 5 (by omega)).mono ?_
  rintro e w1 ⟨rfl, hb⟩
  have HB := hide hb
  clear c0 c1 f0 f1 q0 q1 hb HH
  go_wp2_with fail
  refine bodyPost_ret (results_none rfl _ _ _) rfl ?_
  exact ⟨rfl, HB.out⟩
end Go.Proofs.YtapfaaaepnplcaaGreatDoor
set_option maxRecDepth 100000
set_option maxHeartbeats 4000000
namespace Go.Proofs.YtapfaaaepnplcaaGreatDoor
open Go.RowKit Go.Great
abbrev inE : Array Value := #[noS, noS, noS, noS, noS, noS, noS, noS, noS, noS, noS, noS]
def said0 : Array Value := (senR 30).toArray
theorem pil_mid {a : Ad} (pre mid post : List Value) (hp : pilL a = pre ++ mid ++ post) (o : Nat) (hl : pre.length = o) (j : Nat) (v : Value) (h : mid[j]? = some v) : pilF a (o + j) = v := by
  unfold pilF
  subst hl
  have hj := (List.getElem?_eq_some_iff.1 h).1
  rw [hp, List.getD, List.append_assoc, List.getElem?_append_right (by omega), List.getElem?_append_left (by omega), Nat.add_sub_cancel_left, h]
  rfl
theorem said_same (a : Ad) (j : Nat) (v : Value) (h : said0.toList[j]? = some v) : pilF a (15 + j) = v :=
  pil_mid (forL a) said0.toList (((senL a).drop 60) ++ lnkL a ++ fliL a ++ [pt a.Pl, .slice (some ⟨a.Jg, 0, none⟩) 7 a.jc] ++ List.replicate 12 (.string ⟨#[]⟩)) (by rfl) 15 rfl j v h
theorem readUnits_no {w0 : World} {b0 : Nat} {w : World} {a : Ad} (h : Bt w0 b0 w a) : Calls Tryz.prog 108 #[.pointer (some ⟨a.B, 15, none⟩), .agg inE] w fun e w' => e = .returned (.tuple #[]) ∧ Below w.heap.size w w' := by
  have HH := hide h
  clear h
  go_enter Tryz.func108, Tryz.ntmps108
  go_upto_region 1 with fail
  have HB := hide (below_alloc w (.cells inE 24))
  have HI := hide (Blk.new w inE 24)
  have H1 := hide (HH.out.after HB.out)
  have HX : Hid (∀ W, Below (w.alloc (.cells inE 24)).heap.size (w.alloc (.cells inE 24)) W → Below w.heap.size w W) := hide (fun W hb => below_two (below_alloc _ _) hb)
  clear HH
  generalize hg : w.heap.size = g at *
  generalize w.alloc (.cells inE 24) = w1 at *
  rename_i K0 hK0
  apply wp_region_lit
  refine wpList_same rfl (some 6) rfl (.pointer (some ⟨a.B, 15, none⟩)) (by kernel_rfl) ?_
  refine wpList_same rfl (some 7) rfl (.agg said0) (by kernel_rfl) ?_
  refine wpList_same rfl (some 8) rfl (.pointer (some ⟨a.B, 15, none⟩)) (by kernel_rfl) ?_
  refine wpList_same rfl (some 9) rfl (.pointer (some ⟨a.B, 15, none⟩)) (by kernel_rfl) ?_
  refine wpList_store_mid rfl 62 _ _ rfl a.B 15 said0 rfl rfl (H1.out.P.there 15 60 (by omega)) (by kernel_rfl) (by kernel_rfl) ?_
  rw [H1.out.P.sameL 15 said0.toList (by decide) (said_same a)]
  refine wpList_frame (a' := { tmps := #[.pointer (some ⟨a.B, 15, none⟩), .agg inE, undef, .pointer (some ⟨g, 0, none⟩), undef, undef, .pointer (some ⟨a.B, 15, none⟩), .agg said0, .pointer (some ⟨a.B, 15, none⟩), .pointer (some ⟨a.B, 15, none⟩), undef, undef, undef, undef, undef, undef, undef, undef, undef, undef, undef, undef, undef, undef, undef, undef, undef, undef, undef, undef, undef, undef, undef, undef, undef, undef, undef, undef, undef, undef, undef, undef, undef, undef, undef, undef, undef, undef, undef], defers := [] }) (by kernel_rfl) ?_
  apply wpList_nil
  refine hK0 _ _ ?_
  clear hK0 K0
  go_wp2_with fail
  go_loopw [10] (fun v wx => ∃ j : Nat, v = .int .i64 (j : Int) ∧ j ≤ 3 ∧ Hid (Below w1.heap.size w1 wx)) (fun v _ => 3 - (intOf v).toNat)
  case atStart => exact ⟨0, rfl, by omega, hide (Below.refl _ _)⟩
  case round =>
    obtain ⟨j, rfl, hj, HG0⟩ := hrel
    by_cases h3 : j = 3
    · subst h3
      go_wp2_with fail
      go_end0
      exact ⟨rfl, by rw [hg]; exact HX.out _ HG0.out⟩
    · have HH0 := hide (H1.out.after HG0.out)
      have IB0 := hide (HI.out.after HG0.out)
      clear H1 HI
      obtain rfl | rfl | rfl : j = 0 ∨ j = 1 ∨ j = 2 := by omega
      · have ci : wr.cell? ⟨g, 0, none⟩ = some noS := IB0.out.cell 0 rfl
        go_wp2_with fail
        refine (readUnit_no HH0.out 0 0 1 (by omega)).mono ?_
        rintro e w2 ⟨rfl, hb⟩
        have HH1 := hide (HH0.out.after hb)
        have IB1 := hide (IB0.out.after hb)
        have HG1 := hide (below_two HG0.out hb)
        have ci : w2.cell? ⟨g, 3, none⟩ = some noS := IB1.out.cell 3 rfl
        clear hb HH0 IB0 HG0
        go_wp2_with fail
        refine (readUnit_no HH1.out 0 4 2 (by omega)).mono ?_
        rintro e w3 ⟨rfl, hb⟩
        have HH2 := hide (HH1.out.after hb)
        have IB2 := hide (IB1.out.after hb)
        have HG2 := hide (below_two HG1.out hb)
        have ci : w3.cell? ⟨g, 6, none⟩ = some noS := IB2.out.cell 6 rfl
        clear hb HH1 IB1 HG1
        go_wp2_with fail
        refine (readUnit_no HH2.out 0 6 3 (by omega)).mono ?_
        rintro e w4 ⟨rfl, hb⟩
        have h4 := HH2.out.after hb
        have HG3 := hide (below_two HG2.out hb)
        have c := h4.at 16 (.int .i64 0) (by omega) rfl
        have f := h4.fz 16
        have q := h4.eq 16 (.int .i64 0) (by omega) rfl
        clear hb HH2 IB2 HG2 h4
        go_wp2_with fail
        refine (wayE _).mono ?_
        rintro e w5 ⟨rfl, hw⟩
        obtain rfl := hw.symm
        go_wp2_with fail
        go_roundw
        case rel => exact ⟨1, by go_num, by omega, HG3⟩
        case measure => simp [intOf]
      · have ci : wr.cell? ⟨g, 1, none⟩ = some noS := IB0.out.cell 1 rfl
        go_wp2_with fail
        refine (readUnit_no HH0.out 1 0 1 (by omega)).mono ?_
        rintro e w2 ⟨rfl, hb⟩
        have HH1 := hide (HH0.out.after hb)
        have IB1 := hide (IB0.out.after hb)
        have HG1 := hide (below_two HG0.out hb)
        have ci : w2.cell? ⟨g, 4, none⟩ = some noS := IB1.out.cell 4 rfl
        clear hb HH0 IB0 HG0
        go_wp2_with fail
        refine (readUnit_no HH1.out 1 4 2 (by omega)).mono ?_
        rintro e w3 ⟨rfl, hb⟩
        have HH2 := hide (HH1.out.after hb)
        have IB2 := hide (IB1.out.after hb)
        have HG2 := hide (below_two HG1.out hb)
        have ci : w3.cell? ⟨g, 7, none⟩ = some noS := IB2.out.cell 7 rfl
        clear hb HH1 IB1 HG1
        go_wp2_with fail
        refine (readUnit_no HH2.out 1 6 3 (by omega)).mono ?_
        rintro e w4 ⟨rfl, hb⟩
        have h4 := HH2.out.after hb
        have HG3 := hide (below_two HG2.out hb)
        have c := h4.at 18 (.int .i64 0) (by omega) rfl
        have f := h4.fz 18
        have q := h4.eq 18 (.int .i64 0) (by omega) rfl
        clear hb HH2 IB2 HG2 h4
        go_wp2_with fail
        refine (wayE _).mono ?_
        rintro e w5 ⟨rfl, hw⟩
        obtain rfl := hw.symm
        go_wp2_with fail
        go_roundw
        case rel => exact ⟨2, by go_num, by omega, HG3⟩
        case measure => simp [intOf]
      · have ci : wr.cell? ⟨g, 2, none⟩ = some noS := IB0.out.cell 2 rfl
        go_wp2_with fail
        refine (readUnit_no HH0.out 2 0 1 (by omega)).mono ?_
        rintro e w2 ⟨rfl, hb⟩
        have HH1 := hide (HH0.out.after hb)
        have IB1 := hide (IB0.out.after hb)
        have HG1 := hide (below_two HG0.out hb)
        have ci : w2.cell? ⟨g, 5, none⟩ = some noS := IB1.out.cell 5 rfl
        clear hb HH0 IB0 HG0
        go_wp2_with fail
        refine (readUnit_no HH1.out 2 4 2 (by omega)).mono ?_
        rintro e w3 ⟨rfl, hb⟩
        have HH2 := hide (HH1.out.after hb)
        have IB2 := hide (IB1.out.after hb)
        have HG2 := hide (below_two HG1.out hb)
        have ci : w3.cell? ⟨g, 8, none⟩ = some noS := IB2.out.cell 8 rfl
        clear hb HH1 IB1 HG1
        go_wp2_with fail
        refine (readUnit_no HH2.out 2 6 3 (by omega)).mono ?_
        rintro e w4 ⟨rfl, hb⟩
        have h4 := HH2.out.after hb
        have HG3 := hide (below_two HG2.out hb)
        have c := h4.at 20 (.int .i64 0) (by omega) rfl
        have f := h4.fz 20
        have q := h4.eq 20 (.int .i64 0) (by omega) rfl
        clear hb HH2 IB2 HG2 h4
        go_wp2_with fail
        refine (wayE _).mono ?_
        rintro e w5 ⟨rfl, hw⟩
        obtain rfl := hw.symm
        go_wp2_with fail
        go_roundw
        case rel => exact ⟨3, by go_num, by omega, HG3⟩
        case measure => simp [intOf]
end Go.Proofs.YtapfaaaepnplcaaGreatDoor
set_option maxRecDepth 100000
set_option maxHeartbeats 4000000
namespace Go.Proofs.YtapfaaaepnplcaaGreatDoor
open Go.RowKit Go.Great
theorem sen_at : ∀ (n j : Nat), j < 2 * n → (senR n)[j]? = some (if j % 2 = 0 then Value.bool false else Value.int .i64 0)
  | 0, _, h => absurd h (by omega)
  | n + 1, 0, _ => rfl
  | n + 1, 1, _ => rfl
  | n + 1, j + 2, h => by
    have := sen_at n j (by omega)
    rw [show (j + 2) % 2 = j % 2 by omega]
    exact this
theorem said_at (j : Nat) (v : Value) (h : j < 60) (hv : (if j % 2 = 0 then Value.bool false else Value.int .i64 0) = v) : said0.toList[j]? = some v := by
  subst hv
  exact sen_at 30 j (by omega)
theorem votes_same (a : Ad) (j : Nat) (v : Value) (h : (senR 10)[j]? = some v) : pilF a (95 + j) = v :=
  pil_mid (forL a ++ (senL a).take 80) (senR 10) ([pt (a.F 0), pt (a.F 1), pt (a.F 2), pt a.Cm, pt a.Ba] ++ lnkL a ++ fliL a ++ [pt a.Pl, .slice (some ⟨a.Jg, 0, none⟩) 7 a.jc] ++ List.replicate 12 (.string ⟨#[]⟩)) (by rfl) 95 rfl j v h
def votA (a : Ad) : Array Value := #[pt (a.V 0), pt (a.V 1), pt (a.V 2), pt (a.V 3), pt (a.V 4), pt (a.V 5), pt (a.V 6), pt (a.V 7), pt (a.V 8), pt (a.V 9)]
theorem vot_ix (a : Ad) (j : Nat) (h : j < 10) (w : World) : (Instr.index 67 (.agg (votA a)) (.int .i64 (j : Int))).run Tryz.prog w = .ok (pt (a.V j)) w := by
  obtain rfl | rfl | rfl | rfl | rfl | rfl | rfl | rfl | rfl | rfl : j = 0 ∨ j = 1 ∨ j = 2 ∨ j = 3 ∨ j = 4 ∨ j = 5 ∨ j = 6 ∨ j = 7 ∨ j = 8 ∨ j = 9 := by omega
  all_goals kernel_rfl
theorem poll_no {w0 : World} {b0 : Nat} {w : World} {a : Ad} (h : Bt w0 b0 w a) : Calls Tryz.prog 118 #[.pointer (some ⟨a.B, 15, none⟩)] w fun e w' => e = .returned (.tuple #[]) ∧ Below w.heap.size w w' := by
  have HH := hide h
  have hV : ∀ j, j < 10 → w.cell? ⟨a.B, 85 + j, none⟩ = some (pt (a.V j)) := fun j hj => h.at (85 + j) (pt (a.V j)) (by omega) (by
    obtain rfl | rfl | rfl | rfl | rfl | rfl | rfl | rfl | rfl | rfl : j = 0 ∨ j = 1 ∨ j = 2 ∨ j = 3 ∨ j = 4 ∨ j = 5 ∨ j = 6 ∨ j = 7 ∨ j = 8 ∨ j = 9 := by omega
    all_goals rfl)
  have v0 := hV 0 (by omega)
  have v1 := hV 1 (by omega)
  have v2 := hV 2 (by omega)
  have v3 := hV 3 (by omega)
  have v4 := hV 4 (by omega)
  have v5 := hV 5 (by omega)
  have v6 := hV 6 (by omega)
  have v7 := hV 7 (by omega)
  have v8 := hV 8 (by omega)
  have v9 := hV 9 (by omega)
  clear h hV
  go_enter Tryz.func118, Tryz.ntmps118
  go_wp2_with fail
  clear v0 v1 v2 v3 v4 v5 v6 v7 v8 v9
  go_loopw [8] (fun v wx => ∃ j : Nat, v = .int .i64 (j : Int) ∧ j ≤ 10 ∧ Hid (Below w.heap.size w wx)) (fun v _ => 10 - (intOf v).toNat)
  case atStart => exact ⟨0, rfl, by omega, hide (Below.refl _ _)⟩
  case round =>
    obtain ⟨j, rfl, hj, HG⟩ := hrel
    by_cases h2 : j = 10
    · subst h2
      go_wp2_with fail
      go_end0
      exact ⟨rfl, HG.out⟩
    · have hj2 : j < 10 := by omega
      have hjn : (j : Int) < 10 := by omega
      have H1 := hide (HH.out.after HG.out)
      have ix := vot_ix a j hj2
      unfold votA at ix
      go_wp2_with fail
      have hs : ∀ i, i < 6 → ∀ x : BelowW wr, x.q.cell? ⟨a.B, 15 + j * 6 + i, none⟩ = some (if i % 2 = 0 then .bool false else .int .i64 0) := fun i hi x => (H1.out.after x.h).at (15 + j * 6 + i) _ (by omega) (by
        rw [show 15 + j * 6 + i = 15 + (j * 6 + i) by omega]
        exact said_same a (j * 6 + i) _ (said_at (j * 6 + i) _ (by omega) (by rw [show (j * 6 + i) % 2 = i % 2 by omega])))
      have s0 : ∀ x : BelowW wr, x.q.cell? ⟨a.B, 15 + j * 6, none⟩ = some (.bool false) := hs 0 (by omega)
      have s1 : ∀ x : BelowW wr, x.q.cell? ⟨a.B, 15 + j * 6 + 1, none⟩ = some (.int .i64 0) := hs 1 (by omega)
      have s2 : ∀ x : BelowW wr, x.q.cell? ⟨a.B, 15 + j * 6 + 2, none⟩ = some (.bool false) := hs 2 (by omega)
      have s3 : ∀ x : BelowW wr, x.q.cell? ⟨a.B, 15 + j * 6 + 3, none⟩ = some (.int .i64 0) := hs 3 (by omega)
      have s4 : ∀ x : BelowW wr, x.q.cell? ⟨a.B, 15 + j * 6 + 4, none⟩ = some (.bool false) := hs 4 (by omega)
      have s5 : ∀ x : BelowW wr, x.q.cell? ⟨a.B, 15 + j * 6 + 5, none⟩ = some (.int .i64 0) := hs 5 (by omega)
      clear hs ix
      have hne : Nonempty (BelowW wr) := ⟨⟨wr, Below.refl _ _⟩⟩
      refine reg_last_calm 13 rfl rfl _ rfl (by kernel_rfl) (by kernel_rfl) (by kernel_rfl) ?_
      simp only [List.take_succ_cons, List.take_zero]
      repeat (go_big_quiet_step (first | (go_at_call 195; exact calm_of (stepVE _ _ 8 _ 0 0 0 (by omega) ((H1.out.after (BelowW.h _)).V j hj2).choose_spec))))
      refine wpQuiet_nil ?_
      rintro _ ⟨x, rfl⟩
      have h2 := H1.out.after x.h
      have hx0 := below_two HG.out x.h
      obtain ⟨W, hx⟩ := x
      have HX : Hid (Below w.heap.size w W) := hide hx0
      clear hx0
      have c0 : W.cell? ⟨a.B, 95 + j * 2, none⟩ = some (.bool false) := h2.at (95 + j * 2) _ (by omega) (votes_same a (j * 2) _ ((sen_at 10 (j * 2) (by omega)).trans (by rw [if_pos (by omega)])))
      have c1 : W.cell? ⟨a.B, 95 + j * 2 + 1, none⟩ = some (.int .i64 0) := h2.at (95 + j * 2 + 1) _ (by omega) (votes_same a (j * 2 + 1) _ ((sen_at 10 (j * 2 + 1) (by omega)).trans (by rw [if_neg (by omega)])))
      have f0 : W.frozen? ⟨a.B, 95 + j * 2, none⟩ = false := h2.fz _
      have f1 : W.frozen? ⟨a.B, 95 + j * 2 + 1, none⟩ = false := h2.fz _
      have e0 : W.setCell ⟨a.B, 95 + j * 2, none⟩ (.bool false) = W := h2.eq _ _ (by omega) (votes_same a (j * 2) _ ((sen_at 10 (j * 2) (by omega)).trans (by rw [if_pos (by omega)])))
      have e1 : W.setCell ⟨a.B, 95 + j * 2 + 1, none⟩ (.int .i64 0) = W := h2.eq _ _ (by omega) (votes_same a (j * 2 + 1) _ ((sen_at 10 (j * 2 + 1) (by omega)).trans (by rw [if_neg (by omega)])))
      clear s0 s1 s2 s3 s4 s5 hne h2 H1 HG
      go_simp
      go_wp2_with fail
      go_roundw
      case rel => exact ⟨j + 1, by go_num, by omega, HX⟩
      case measure => simp [intOf]; omega
end Go.Proofs.YtapfaaaepnplcaaGreatDoor
set_option maxRecDepth 100000
set_option maxHeartbeats 4000000
namespace Go.Proofs.YtapfaaaepnplcaaGreatDoor
open Go.RowKit Go.Great
theorem orient_no {w0 : World} {b0 : Nat} {w : World} {a : Ad} (h : Bt w0 b0 w a) : Calls Tryz.prog 120 #[.pointer (some ⟨a.B, 15, none⟩)] w fun e w' => e = .returned (.tuple #[]) ∧ Below w.heap.size w w' := by
  have HH := hide h
  have c0 := h.at 95 (.bool false) (by omega) rfl
  have c1 := h.at 96 (.int .i64 0) (by omega) rfl
  have c2 := h.at 97 (.bool false) (by omega) rfl
  have c3 := h.at 98 (.int .i64 0) (by omega) rfl
  have hl := h.P.lt
  clear h
  go_enter Tryz.func120, Tryz.ntmps120
  go_wp2_with fail
  go_region
  all_goals
    obtain ⟨W0, hW0, hB, B0, B1, hz⟩ := two_boxes w #[.bool false, .int .i64 0] #[.bool false, .int .i64 0] 60 60
    rw [hW0]
    have HW := hide (HH.out.after (hB.drew))
    have HB := hide hB.drew
    have HB0 := hide (B0.after (Below.refl _ _).drew)
    have HB1 := hide (B1.after (Below.refl _ _).drew)
    clear c0 c1 c2 c3 hl hB B0 B1 hz hW0 HH
    generalize W0.drew = W at *
    have c0 : ∀ x : BelowW W, x.q.cell? ⟨a.B, 118, none⟩ = some (pt a.Cm) := fun x => (HW.out.after x.h).at 118 (pt a.Cm) (by omega) rfl
    have b0 : ∀ x : BelowW W, x.q.cell? ⟨w.heap.size, 0, none⟩ = some (.bool false) := HB0.out.at 0 rfl
    have b1 : ∀ x : BelowW W, x.q.cell? ⟨w.heap.size, 1, none⟩ = some (.int .i64 0) := HB0.out.at 1 rfl
    have d0 : ∀ x : BelowW W, x.q.cell? ⟨w.heap.size + 1, 0, none⟩ = some (.bool false) := HB1.out.at 0 rfl
    have d1 : ∀ x : BelowW W, x.q.cell? ⟨w.heap.size + 1, 1, none⟩ = some (.int .i64 0) := HB1.out.at 1 rfl
    have hne : Nonempty (BelowW W) := ⟨⟨W, Below.refl _ _⟩⟩
    go_wp2_with fail
    refine reg_last_calm 14 rfl rfl _ rfl (by kernel_rfl) (by kernel_rfl) (by kernel_rfl) ?_
    simp only [List.take_succ_cons, List.take_zero]
    repeat (go_big_quiet_step (fail))
    refine wpQuiet_nil ?_
    rintro _ ⟨x, rfl⟩
    have hx := hide (below_next HB.out (Nat.le_refl _) x.h)
    have h2 := HW.out.after x.h
    clear c0 b0 b1 d0 d1 hne HB0 HB1 HW HB
    go_simp
    refine (stepCE _ _ 8 false 0 0 0 1 h2.Cm).mono ?_
    rintro e w1 ⟨rfl, hb⟩
    have hy := hide (below_two hx.out hb)
    go_wp2_with fail
    go_end0
    exact ⟨rfl, hy.out⟩
end Go.Proofs.YtapfaaaepnplcaaGreatDoor
set_option maxRecDepth 100000
set_option maxHeartbeats 4000000
namespace Go.Proofs.YtapfaaaepnplcaaGreatDoor
open Go.RowKit Go.Great
theorem i64s {x : Int} (h : -9223372036854775808 ≤ x ∧ x ≤ 9223372036854775807) : I64 x := h
theorem addI (a b c : Int) (h : sat (a + b) = c) (ha : I64 a) (hb : I64 b) (W : World) : Calls Tryz.prog 199 #[.int .i64 a, .int .i64 b] W fun e w' => e = .returned (.int .i64 c) ∧ w' = W := h ▸ add_any a b W ha hb
theorem subI (a b c : Int) (h : sat (a - b) = c) (ha : I64 a) (hb : I64 b) (W : World) : Calls Tryz.prog 172 #[.int .i64 a, .int .i64 b] W fun e w' => e = .returned (.int .i64 c) ∧ w' = W := h ▸ sub_any a b W ha hb
theorem mulI (a b c : Int) (h : sat (a * b) = c) (ha : I64 a) (hb : I64 b) (W : World) : Calls Tryz.prog 200 #[.int .i64 a, .int .i64 b] W fun e w' => e = .returned (.int .i64 c) ∧ w' = W := h ▸ mul_any a b W ha hb
theorem low_no {w0 : World} {b0 : Nat} {w : World} {a : Ad} (h : Bt w0 b0 w a) : Calls Tryz.prog 196 #[.pointer (some ⟨a.B, 15, none⟩), .int .i64 0, .int .i64 92] w fun e w' => e = .returned (.bool true) ∧ Below w.heap.size w w' := by
  have HH := hide h
  have c0 := h.at 117 (pt (a.F 2)) (by omega) rfl
  clear h
  go_enter Tryz.func196, Tryz.ntmps196
  go_wp2_with fail
  refine (axisE _ _ 8 (HH.out.F 2 (by omega))).mono ?_
  rintro e w1 ⟨rfl, hb⟩
  have HB := hide (below_two hb (below_alloc w1 (.cells #[.int .i64 0, .int .i64 0, .int .i64 0, .int .i64 0] 43)))
  clear hb HH c0
  go_wp2_with fail
  refine (addI 0 0 0 (by decide) (i64s (by omega)) (i64s (by omega)) _).mono ?_
  rintro e w2 ⟨rfl, hw⟩
  obtain rfl := hw.symm
  go_wp2_with fail
  refine (subI 0 92 (-92) (by decide) (i64s (by omega)) (i64s (by omega)) _).mono ?_
  rintro e w2 ⟨rfl, hw⟩
  obtain rfl := hw.symm
  go_wp2_with fail
  refine (addI 0 (-92) (-92) (by decide) (i64s (by omega)) (i64s (by omega)) _).mono ?_
  rintro e w2 ⟨rfl, hw⟩
  obtain rfl := hw.symm
  go_wp2_with fail
  go_ret
  exact ⟨rfl, HB.out⟩
theorem arrE_back {fn : Func} {p : Tmp} {ty e : TypeId} {n : Nat} (h : fn.results = #[.cell p ty]) (hu : Tryz.prog.underlying ty = some (.array n e)) {cs : Array Value} (hz : (Tryz.prog.info? ty).map (·.size) = some cs.size) (tmps : Array Value) (w : World) (g : Nat) (hp : tmps.getD p undef = .pointer (some ⟨g, 0, none⟩)) (hg : Blk w g cs ty) : (results fn tmps).run Tryz.prog w = .ok (.agg cs) w := by
  rw [res_one h]
  have := run_loadVar_row (P := Tryz.prog) w g ty ty cs (0, 0) _ hg hu rfl hz
  rw [hp]
  simp [asAddr, this, Result.andThen]
def srcA : Array Value := #[.int .i64 6, .int .i64 8, .int .i64 1, .int .i64 2, .int .i64 7, .int .i64 9, .int .i64 1, .int .i64 2, .int .i64 4, .int .i64 5, .int .i64 3, .int .i64 4]
theorem sources_any (w : World) : Calls Tryz.prog 197 #[] w fun e w' => e = .returned (.agg srcA) ∧ Below w.heap.size w w' := by
  go_enter Tryz.func197, Tryz.ntmps197
  go_wp2_with fail
  refine bodyPost_ret (arrE_back Tryz.results197 Tryz.underlying341 (by kernel_rfl) _ _ w.heap.size rfl (Blk.new w srcA 341)) rfl ?_
  exact ⟨rfl, below_alloc _ _⟩
end Go.Proofs.YtapfaaaepnplcaaGreatDoor
set_option maxRecDepth 100000
set_option maxHeartbeats 8000000
namespace Go.Proofs.YtapfaaaepnplcaaGreatDoor
open Go.RowKit Go.Great
theorem src_ix0 (w : World) : (Instr.index 341 (.agg srcA) (.int .i64 0)).run Tryz.prog w = .ok (.agg #[.int .i64 6, .int .i64 8, .int .i64 1, .int .i64 2]) w := by kernel_rfl
theorem src_ix1 (w : World) : (Instr.index 341 (.agg srcA) (.int .i64 1)).run Tryz.prog w = .ok (.agg #[.int .i64 7, .int .i64 9, .int .i64 1, .int .i64 2]) w := by kernel_rfl
theorem src_ix2 (w : World) : (Instr.index 341 (.agg srcA) (.int .i64 2)).run Tryz.prog w = .ok (.agg #[.int .i64 4, .int .i64 5, .int .i64 3, .int .i64 4]) w := by kernel_rfl
theorem locate_no {w0 : World} {b0 : Nat} {w : World} {a : Ad} (h : Bt w0 b0 w a) : Calls Tryz.prog 119 #[.pointer (some ⟨a.B, 15, none⟩), .agg #[.int .i64 0, .int .i64 0, .int .i64 0], .slice (some ⟨a.Vg, 0, none⟩) 24 a.vc] w fun e w' => e = .returned (.tuple #[]) ∧ Below w.heap.size w w' := by
  have HX := hide (fun W (hb : Below (w.alloc (.cells #[.int .i64 0, .int .i64 0, .int .i64 0] 63)).heap.size (w.alloc (.cells #[.int .i64 0, .int .i64 0, .int .i64 0] 63)) W) => below_two (below_alloc w (.cells #[.int .i64 0, .int .i64 0, .int .i64 0] 63)) hb)
  have H1 := hide (h.after (below_alloc w (.cells #[.int .i64 0, .int .i64 0, .int .i64 0] 63)))
  have HI := hide (Blk.new w #[.int .i64 0, .int .i64 0, .int .i64 0] 63)
  have x0 := src_ix0
  have x1 := src_ix1
  have x2 := src_ix2
  clear h
  go_enter Tryz.func119, Tryz.ntmps119
  go_upto_region 1 with fail
  generalize hg : w.heap.size = g at *
  generalize w.alloc (.cells #[.int .i64 0, .int .i64 0, .int .i64 0] 63) = w1 at *
  have c0 := H1.out.val 0 (x := 6) (by omega) rfl
  have i2 : w1.cell? ⟨g, 2, none⟩ = some (.int .i64 0) := HI.out.cell 2 rfl
  go_wp2_with fail
  refine (low_no H1.out).mono ?_
  rintro e w2 ⟨rfl, hb⟩
  have H2 := hide (H1.out.after hb)
  have HI2 := hide (HI.out.after hb)
  have HB2 := hide hb
  clear hb c0 i2 H1 HI
  go_wp2_with fail
  refine (sources_any _).mono ?_
  rintro e w3 ⟨rfl, hb⟩
  have H3 := hide (H2.out.after hb)
  have HI3 := hide (HI2.out.after hb)
  have HB3 := hide (below_two HB2.out hb)
  clear hb H2 HI2 HB2
  unfold srcA at *
  go_wp2_with fail
  go_loopw [22] (fun v wx => ∃ j : Nat, v = .int .i64 (j : Int) ∧ j ≤ 3 ∧ Hid (Below w3.heap.size w3 wx)) (fun v _ => 3 - (intOf v).toNat)
  case atStart => exact ⟨0, rfl, by omega, hide (Below.refl _ _)⟩
  case round =>
    obtain ⟨j, rfl, hj, HG⟩ := hrel
    by_cases h2 : j = 3
    · subst h2
      go_wp2_with fail
      go_end0
      exact ⟨rfl, by rw [hg]; exact HX.out _ (below_two HB3.out HG.out)⟩
    · have H4 := hide (H3.out.after HG.out)
      have HI4 := hide (HI3.out.after HG.out)
      clear H3 HI3 HX
      obtain rfl | rfl | rfl : j = 0 ∨ j = 1 ∨ j = 2 := by omega
      · go_upto_region 6 with fail
        have HS := hide (Blk.new wr #[.int .i64 6, .int .i64 8, .int .i64 1, .int .i64 2] 340)
        have hba := below_alloc wr (.cells #[.int .i64 6, .int .i64 8, .int .i64 1, .int .i64 2] 340)
        have H5 := hide (H4.out.after hba)
        have HI5 := hide (HI4.out.after hba)
        have HG5 := hide (below_two HG.out hba)
        clear H4 HI4 HG hba x0 x1 x2
        generalize hs : wr.heap.size = s at *
        generalize wr.alloc (.cells #[.int .i64 6, .int .i64 8, .int .i64 1, .int .i64 2] 340) = W1 at *
        have e0 : W1.cell? ⟨s, 0, none⟩ = some (.int .i64 6) := HS.out.cell 0 rfl
        have e1 : W1.cell? ⟨s, 1, none⟩ = some (.int .i64 8) := HS.out.cell 1 rfl
        have p0 := H5.out.at 107 (.bool false) (by omega) rfl
        have p1 := H5.out.at 108 (.int .i64 0) (by omega) rfl
        have s0 := H5.out.at 111 (.bool false) (by omega) rfl
        have s1 := H5.out.at 112 (.int .i64 0) (by omega) rfl
        have hl := H5.out.P.lt
        have hls := HS.out.lt
        go_region
        all_goals
          obtain ⟨W0, hW0, hB, B0, B1, hz⟩ := two_boxes W1 #[.bool false, .int .i64 0] #[.bool false, .int .i64 0] 60 60
          rw [hW0]
          have HW := hide (H5.out.after hB.drew)
          have HI6 := hide (HI5.out.after hB.drew)
          have HS6 := hide (HS.out.after hB.drew)
          have HG6 := hide (below_two HG5.out hB.drew)
          have HB0 := hide (B0.after (Below.refl _ _).drew)
          have HB1 := hide (B1.after (Below.refl _ _).drew)
          clear hl hls e0 e1 p0 p1 s0 s1 hB B0 B1 hz hW0 H5 HI5 HS HG5
          generalize W0.drew = W at *
          have c0 : ∀ x : BelowW W, x.q.cell? ⟨a.B, 115, none⟩ = some (pt (a.F 0)) := fun x => (HW.out.after x.h).at 115 (pt (a.F 0)) (by omega) rfl
          have v0 : ∀ x : BelowW W, x.q.cell? ⟨a.Vg, 1, none⟩ = some (.int .i64 20) := fun x => (HW.out.after x.h).val 1 (by omega) rfl
          have v1 : ∀ x : BelowW W, x.q.cell? ⟨a.Vg, 2, none⟩ = some (.int .i64 4) := fun x => (HW.out.after x.h).val 2 (by omega) rfl
          have i0 : ∀ x : BelowW W, x.q.cell? ⟨g, 0, none⟩ = some (.int .i64 0) := HI6.out.at 0 rfl
          have u2 : ∀ x : BelowW W, x.q.cell? ⟨s, 2, none⟩ = some (.int .i64 1) := HS6.out.at 2 rfl
          have u3 : ∀ x : BelowW W, x.q.cell? ⟨s, 3, none⟩ = some (.int .i64 2) := HS6.out.at 3 rfl
          have b0 : ∀ x : BelowW W, x.q.cell? ⟨W1.heap.size, 0, none⟩ = some (.bool false) := HB0.out.at 0 rfl
          have b1 : ∀ x : BelowW W, x.q.cell? ⟨W1.heap.size, 1, none⟩ = some (.int .i64 0) := HB0.out.at 1 rfl
          have d0 : ∀ x : BelowW W, x.q.cell? ⟨W1.heap.size + 1, 0, none⟩ = some (.bool false) := HB1.out.at 0 rfl
          have d1 : ∀ x : BelowW W, x.q.cell? ⟨W1.heap.size + 1, 1, none⟩ = some (.int .i64 0) := HB1.out.at 1 rfl
          have hne : Nonempty (BelowW W) := ⟨⟨W, Below.refl _ _⟩⟩
          go_wp2_with fail
          refine reg_last_calm 35 rfl rfl _ rfl (by kernel_rfl) (by kernel_rfl) (by kernel_rfl) ?_
          simp only [List.take_succ_cons, List.take_zero]
          repeat (go_big_quiet_step (first | (go_at_call 200; exact calm_same (mulI 6400 0 0 (by decide) (i64s (by omega)) (i64s (by omega)) _)) | (go_at_call 199; exact calm_same (addI 0 3200 3200 (by decide) (i64s (by omega)) (i64s (by omega)) _))))
          refine wpQuiet_nil ?_
          rintro _ ⟨x, rfl⟩
          have hx := hide (below_two HG6.out x.h)
          have h2 := HW.out.after x.h
          clear c0 v0 v1 i0 u2 u3 b0 b1 d0 d1 hne HB0 HB1 HW HI6 HS6 HG6
          go_simp
          refine (stepFE _ _ 8 0 92 true 3200 131200 false 0 4 (h2.F 0 (by omega))).mono ?_
          rintro e w1 ⟨rfl, hb⟩
          have hy := hide (below_two hx.out hb)
          go_wp2_with fail
          go_roundw
          case rel => exact ⟨1, by go_num, by omega, hy⟩
          case measure => simp [intOf]
      · go_upto_region 6 with fail
        have HS := hide (Blk.new wr #[.int .i64 7, .int .i64 9, .int .i64 1, .int .i64 2] 340)
        have hba := below_alloc wr (.cells #[.int .i64 7, .int .i64 9, .int .i64 1, .int .i64 2] 340)
        have H5 := hide (H4.out.after hba)
        have HI5 := hide (HI4.out.after hba)
        have HG5 := hide (below_two HG.out hba)
        clear H4 HI4 HG hba x0 x1 x2
        generalize hs : wr.heap.size = s at *
        generalize wr.alloc (.cells #[.int .i64 7, .int .i64 9, .int .i64 1, .int .i64 2] 340) = W1 at *
        have e0 : W1.cell? ⟨s, 0, none⟩ = some (.int .i64 7) := HS.out.cell 0 rfl
        have e1 : W1.cell? ⟨s, 1, none⟩ = some (.int .i64 9) := HS.out.cell 1 rfl
        have p0 := H5.out.at 109 (.bool false) (by omega) rfl
        have p1 := H5.out.at 110 (.int .i64 0) (by omega) rfl
        have s0 := H5.out.at 113 (.bool false) (by omega) rfl
        have s1 := H5.out.at 114 (.int .i64 0) (by omega) rfl
        have hl := H5.out.P.lt
        have hls := HS.out.lt
        go_region
        all_goals
          obtain ⟨W0, hW0, hB, B0, B1, hz⟩ := two_boxes W1 #[.bool false, .int .i64 0] #[.bool false, .int .i64 0] 60 60
          rw [hW0]
          have HW := hide (H5.out.after hB.drew)
          have HI6 := hide (HI5.out.after hB.drew)
          have HS6 := hide (HS.out.after hB.drew)
          have HG6 := hide (below_two HG5.out hB.drew)
          have HB0 := hide (B0.after (Below.refl _ _).drew)
          have HB1 := hide (B1.after (Below.refl _ _).drew)
          clear hl hls e0 e1 p0 p1 s0 s1 hB B0 B1 hz hW0 H5 HI5 HS HG5
          generalize W0.drew = W at *
          have c0 : ∀ x : BelowW W, x.q.cell? ⟨a.B, 116, none⟩ = some (pt (a.F 1)) := fun x => (HW.out.after x.h).at 116 (pt (a.F 1)) (by omega) rfl
          have v0 : ∀ x : BelowW W, x.q.cell? ⟨a.Vg, 1, none⟩ = some (.int .i64 20) := fun x => (HW.out.after x.h).val 1 (by omega) rfl
          have v1 : ∀ x : BelowW W, x.q.cell? ⟨a.Vg, 2, none⟩ = some (.int .i64 4) := fun x => (HW.out.after x.h).val 2 (by omega) rfl
          have i0 : ∀ x : BelowW W, x.q.cell? ⟨g, 1, none⟩ = some (.int .i64 0) := HI6.out.at 1 rfl
          have u2 : ∀ x : BelowW W, x.q.cell? ⟨s, 2, none⟩ = some (.int .i64 1) := HS6.out.at 2 rfl
          have u3 : ∀ x : BelowW W, x.q.cell? ⟨s, 3, none⟩ = some (.int .i64 2) := HS6.out.at 3 rfl
          have b0 : ∀ x : BelowW W, x.q.cell? ⟨W1.heap.size, 0, none⟩ = some (.bool false) := HB0.out.at 0 rfl
          have b1 : ∀ x : BelowW W, x.q.cell? ⟨W1.heap.size, 1, none⟩ = some (.int .i64 0) := HB0.out.at 1 rfl
          have d0 : ∀ x : BelowW W, x.q.cell? ⟨W1.heap.size + 1, 0, none⟩ = some (.bool false) := HB1.out.at 0 rfl
          have d1 : ∀ x : BelowW W, x.q.cell? ⟨W1.heap.size + 1, 1, none⟩ = some (.int .i64 0) := HB1.out.at 1 rfl
          have hne : Nonempty (BelowW W) := ⟨⟨W, Below.refl _ _⟩⟩
          go_wp2_with fail
          refine reg_last_calm 35 rfl rfl _ rfl (by kernel_rfl) (by kernel_rfl) (by kernel_rfl) ?_
          simp only [List.take_succ_cons, List.take_zero]
          repeat (go_big_quiet_step (first | (go_at_call 200; exact calm_same (mulI 6400 0 0 (by decide) (i64s (by omega)) (i64s (by omega)) _)) | (go_at_call 199; exact calm_same (addI 0 3200 3200 (by decide) (i64s (by omega)) (i64s (by omega)) _))))
          refine wpQuiet_nil ?_
          rintro _ ⟨x, rfl⟩
          have hx := hide (below_two HG6.out x.h)
          have h2 := HW.out.after x.h
          clear c0 v0 v1 i0 u2 u3 b0 b1 d0 d1 hne HB0 HB1 HW HI6 HS6 HG6
          go_simp
          refine (stepFE _ _ 8 0 92 true 3200 131200 false 0 4 (h2.F 1 (by omega))).mono ?_
          rintro e w1 ⟨rfl, hb⟩
          have hy := hide (below_two hx.out hb)
          go_wp2_with fail
          go_roundw
          case rel => exact ⟨2, by go_num, by omega, hy⟩
          case measure => simp [intOf]
      · go_upto_region 6 with fail
        have HS := hide (Blk.new wr #[.int .i64 4, .int .i64 5, .int .i64 3, .int .i64 4] 340)
        have hba := below_alloc wr (.cells #[.int .i64 4, .int .i64 5, .int .i64 3, .int .i64 4] 340)
        have H5 := hide (H4.out.after hba)
        have HI5 := hide (HI4.out.after hba)
        have HG5 := hide (below_two HG.out hba)
        clear H4 HI4 HG hba x0 x1 x2
        generalize hs : wr.heap.size = s at *
        generalize wr.alloc (.cells #[.int .i64 4, .int .i64 5, .int .i64 3, .int .i64 4] 340) = W1 at *
        have e0 : W1.cell? ⟨s, 0, none⟩ = some (.int .i64 4) := HS.out.cell 0 rfl
        have e1 : W1.cell? ⟨s, 1, none⟩ = some (.int .i64 5) := HS.out.cell 1 rfl
        have p0 := H5.out.at 103 (.bool false) (by omega) rfl
        have p1 := H5.out.at 104 (.int .i64 0) (by omega) rfl
        have s0 := H5.out.at 105 (.bool false) (by omega) rfl
        have s1 := H5.out.at 106 (.int .i64 0) (by omega) rfl
        have hl := H5.out.P.lt
        have hls := HS.out.lt
        go_region
        all_goals
          obtain ⟨W0, hW0, hB, B0, B1, hz⟩ := two_boxes W1 #[.bool false, .int .i64 0] #[.bool false, .int .i64 0] 60 60
          rw [hW0]
          have HW := hide (H5.out.after hB.drew)
          have HI6 := hide (HI5.out.after hB.drew)
          have HS6 := hide (HS.out.after hB.drew)
          have HG6 := hide (below_two HG5.out hB.drew)
          have HB0 := hide (B0.after (Below.refl _ _).drew)
          have HB1 := hide (B1.after (Below.refl _ _).drew)
          clear hl hls e0 e1 p0 p1 s0 s1 hB B0 B1 hz hW0 H5 HI5 HS HG5
          generalize W0.drew = W at *
          have c0 : ∀ x : BelowW W, x.q.cell? ⟨a.B, 117, none⟩ = some (pt (a.F 2)) := fun x => (HW.out.after x.h).at 117 (pt (a.F 2)) (by omega) rfl
          have v0 : ∀ x : BelowW W, x.q.cell? ⟨a.Vg, 3, none⟩ = some (.int .i64 20) := fun x => (HW.out.after x.h).val 3 (by omega) rfl
          have v1 : ∀ x : BelowW W, x.q.cell? ⟨a.Vg, 4, none⟩ = some (.int .i64 4) := fun x => (HW.out.after x.h).val 4 (by omega) rfl
          have i0 : ∀ x : BelowW W, x.q.cell? ⟨g, 2, none⟩ = some (.int .i64 0) := HI6.out.at 2 rfl
          have u2 : ∀ x : BelowW W, x.q.cell? ⟨s, 2, none⟩ = some (.int .i64 3) := HS6.out.at 2 rfl
          have u3 : ∀ x : BelowW W, x.q.cell? ⟨s, 3, none⟩ = some (.int .i64 4) := HS6.out.at 3 rfl
          have b0 : ∀ x : BelowW W, x.q.cell? ⟨W1.heap.size, 0, none⟩ = some (.bool false) := HB0.out.at 0 rfl
          have b1 : ∀ x : BelowW W, x.q.cell? ⟨W1.heap.size, 1, none⟩ = some (.int .i64 0) := HB0.out.at 1 rfl
          have d0 : ∀ x : BelowW W, x.q.cell? ⟨W1.heap.size + 1, 0, none⟩ = some (.bool false) := HB1.out.at 0 rfl
          have d1 : ∀ x : BelowW W, x.q.cell? ⟨W1.heap.size + 1, 1, none⟩ = some (.int .i64 0) := HB1.out.at 1 rfl
          have hne : Nonempty (BelowW W) := ⟨⟨W, Below.refl _ _⟩⟩
          go_wp2_with fail
          refine reg_last_calm 35 rfl rfl _ rfl (by kernel_rfl) (by kernel_rfl) (by kernel_rfl) ?_
          simp only [List.take_succ_cons, List.take_zero]
          repeat (go_big_quiet_step (first | (go_at_call 200; exact calm_same (mulI 6400 0 0 (by decide) (i64s (by omega)) (i64s (by omega)) _)) | (go_at_call 199; exact calm_same (addI 0 3200 3200 (by decide) (i64s (by omega)) (i64s (by omega)) _))))
          refine wpQuiet_nil ?_
          rintro _ ⟨x, rfl⟩
          have hx := hide (below_two HG6.out x.h)
          have h2 := HW.out.after x.h
          clear c0 v0 v1 i0 u2 u3 b0 b1 d0 d1 hne HB0 HB1 HW HI6 HS6 HG6
          go_simp
          refine (stepFE _ _ 8 0 92 true 3200 131200 false 0 4 (h2.F 2 (by omega))).mono ?_
          rintro e w1 ⟨rfl, hb⟩
          have hy := hide (below_two hx.out hb)
          go_wp2_with fail
          go_roundw
          case rel => exact ⟨3, by go_num, by omega, hy⟩
          case measure => simp [intOf]
end Go.Proofs.YtapfaaaepnplcaaGreatDoor
set_option maxRecDepth 100000
set_option maxHeartbeats 4000000
namespace Go.Proofs.YtapfaaaepnplcaaGreatDoor
open Go.RowKit Go.Great
theorem results_two {fn : Func} {p q : Tmp} {ty : TypeId} (h : fn.results = #[.cell p ty, .cell q ty]) (tmps : Array Value) (P : Program) (w : World) :
    (results fn tmps).run P w = ((asAddr (tmps.getD p undef)).run P w).andThen fun a w1 => ((loadVar ty a).run P w1).andThen fun v w2 => ((asAddr (tmps.getD q undef)).run P w2).andThen fun b w3 => ((loadVar ty b).run P w3).andThen fun u w4 => .ok (.tuple #[v, u]) w4 := by
  simp only [results, h]
  simp [Sem.run_bind, Result.andThen]
theorem arrE_back2 {fn : Func} {p q : Tmp} {ty e : TypeId} {n : Nat} (h : fn.results = #[.cell p ty, .cell q ty]) (hu : Tryz.prog.underlying ty = some (.array n e)) {cs ds : Array Value} (hz : (Tryz.prog.info? ty).map (·.size) = some cs.size) (hz2 : (Tryz.prog.info? ty).map (·.size) = some ds.size) (tmps : Array Value) (w : World) (g k : Nat) (hp : tmps.getD p undef = .pointer (some ⟨g, 0, none⟩)) (hq : tmps.getD q undef = .pointer (some ⟨k, 0, none⟩)) (hg : Blk w g cs ty) (hk : Blk w k ds ty) : (results fn tmps).run Tryz.prog w = .ok (.tuple #[.agg cs, .agg ds]) w := by
  rw [results_two h]
  have h1 := run_loadVar_row (P := Tryz.prog) w g ty ty cs (0, 0) _ hg hu rfl hz
  have h2 := run_loadVar_row (P := Tryz.prog) w k ty ty ds (0, 0) _ hk hu rfl hz2
  rw [hp, hq]
  simp [asAddr, h1, h2, Result.andThen]
abbrev z3 : Array Value := #[.int .i64 0, .int .i64 0, .int .i64 0]
def filA (a : Ad) : Array Value := #[pt (a.F 0), pt (a.F 1), pt (a.F 2)]
theorem fil_ix (a : Ad) (j : Nat) (h : j < 3) (w : World) : (Instr.index 70 (.agg (filA a)) (.int .i64 (j : Int))).run Tryz.prog w = .ok (pt (a.F j)) w := by
  obtain rfl | rfl | rfl : j = 0 ∨ j = 1 ∨ j = 2 := by omega
  all_goals kernel_rfl
theorem middles_no {w0 : World} {b0 : Nat} {w : World} {a : Ad} (h : Bt w0 b0 w a) : Calls Tryz.prog 122 #[.pointer (some ⟨a.B, 15, none⟩)] w fun e w' => e = .returned (.tuple #[.agg z3, .agg z3]) ∧ Below w.heap.size w w' := by
  obtain ⟨W0, hW0, hB, B0, B1, hz⟩ := two_boxes w z3 z3 63 63
  have HX := hide hB
  have H1 := hide (h.after hB)
  have HP := hide B0
  have HQ := hide B1
  have c0 := H1.out.at 115 (pt (a.F 0)) (by omega) rfl
  have c1 := H1.out.at 116 (pt (a.F 1)) (by omega) rfl
  have c2 := H1.out.at 117 (pt (a.F 2)) (by omega) rfl
  clear h hB B0 B1
  go_enter Tryz.func122, Tryz.ntmps122
  go_wp2_with fail
  clear c0 c1 c2 hW0
  go_loopw [10] (fun v wx => ∃ j : Nat, v = .int .i64 (j : Int) ∧ j ≤ 3 ∧ Hid (Below W0.heap.size W0 wx)) (fun v _ => 3 - (intOf v).toNat)
  case atStart => exact ⟨0, rfl, by omega, hide (Below.refl _ _)⟩
  case round =>
    obtain ⟨j, rfl, hj, HG⟩ := hrel
    have P1 := HP.out.after HG.out
    have Q1 := HQ.out.after HG.out
    by_cases h2 : j = 3
    · subst h2
      have p0 : wr.cell? ⟨w.heap.size, 0, none⟩ = some (.int .i64 0) := P1.cell 0 rfl
      have p1 : wr.cell? ⟨w.heap.size, 1, none⟩ = some (.int .i64 0) := P1.cell 1 rfl
      have p2 : wr.cell? ⟨w.heap.size, 2, none⟩ = some (.int .i64 0) := P1.cell 2 rfl
      have q0 : wr.cell? ⟨w.heap.size + 1, 0, none⟩ = some (.int .i64 0) := Q1.cell 0 rfl
      have q1 : wr.cell? ⟨w.heap.size + 1, 1, none⟩ = some (.int .i64 0) := Q1.cell 1 rfl
      have q2 : wr.cell? ⟨w.heap.size + 1, 2, none⟩ = some (.int .i64 0) := Q1.cell 2 rfl
      have fp := P1.frozen
      have fq := Q1.frozen
      go_wp2_with fail
      go_region
      have e0 : wr.setCell ⟨w.heap.size, 0, none⟩ (.int .i64 0) = wr := P1.same rfl
      have e1 : wr.setCell ⟨w.heap.size, 1, none⟩ (.int .i64 0) = wr := P1.same rfl
      have e2 : wr.setCell ⟨w.heap.size, 2, none⟩ (.int .i64 0) = wr := P1.same rfl
      have e3 : wr.setCell ⟨w.heap.size + 1, 0, none⟩ (.int .i64 0) = wr := Q1.same rfl
      have e4 : wr.setCell ⟨w.heap.size + 1, 1, none⟩ (.int .i64 0) = wr := Q1.same rfl
      have e5 : wr.setCell ⟨w.heap.size + 1, 2, none⟩ (.int .i64 0) = wr := Q1.same rfl
      rw [e0, e1, e2, e3, e4, e5]
      go_wp2_with fail
      refine bodyPost_ret (arrE_back2 Tryz.results122 Tryz.underlying63 (by kernel_rfl) (by kernel_rfl) _ _ w.heap.size (w.heap.size + 1) rfl rfl (P1.after (Below.refl _ _).drew) (Q1.after (Below.refl _ _).drew)) rfl ?_
      exact ⟨rfl, below_two HX.out (below_next HG.out (Nat.le_refl _) (Below.refl _ _).drew)⟩
    · have hj2 : j < 3 := by omega
      have hjn : (j : Int) < 3 := by omega
      have ix := fil_ix a j hj2
      unfold filA at ix
      have HF := hide ((H1.out.after HG.out).F j hj2)
      have HP1 := hide P1
      have HQ1 := hide Q1
      clear P1 Q1
      go_wp2_with fail
      refine (middleE _ _ 8 HF.out).mono ?_
      rintro e w1 ⟨rfl, hb⟩
      have P2 := HP1.out.after hb
      have Q2 := HQ1.out.after hb
      have zc : z3[j]? = some (.int .i64 0) := by obtain rfl | rfl | rfl : j = 0 ∨ j = 1 ∨ j = 2 := by omega
                                                  all_goals rfl
      have p0 : w1.cell? ⟨w.heap.size, j, none⟩ = some (.int .i64 0) := P2.cell j zc
      have q0 : w1.cell? ⟨w.heap.size + 1, j, none⟩ = some (.int .i64 0) := Q2.cell j zc
      have fp := P2.frozen j
      have fq := Q2.frozen j
      have ep : w1.setCell ⟨w.heap.size, j, none⟩ (.int .i64 0) = w1 := P2.same zc
      have eq : w1.setCell ⟨w.heap.size + 1, j, none⟩ (.int .i64 0) = w1 := Q2.same zc
      have hx := hide (below_two HG.out hb)
      clear P2 Q2 hb HF HP1 HQ1
      go_wp2_with fail
      go_roundw
      case rel => exact ⟨j + 1, by go_num, by omega, hx⟩
      case measure => simp [intOf]; omega
end Go.Proofs.YtapfaaaepnplcaaGreatDoor
set_option maxRecDepth 100000
set_option maxHeartbeats 8000000
namespace Go.Proofs.YtapfaaaepnplcaaGreatDoor
open Go.RowKit Go.Great
theorem stepBE (w : World) (B : Nat) (x : Int) (cs : Array Value) (h : Blk w B cs 172) (hk : cs[27]? = some (.bool false)) : Calls Tryz.prog 121 #[pt B, .agg #[.bool false, .int .i64 x]] w fun e w' => e = .returned (.tuple #[]) ∧ Below w.heap.size w w' := by
  have h1 := h.alloc (.cells #[.bool false, .int .i64 x] 60)
  have r0 : (w.alloc (.cells #[.bool false, .int .i64 x] 60)).cell? ⟨w.heap.size, 0, none⟩ = some (.bool false) := (Blk.new w #[.bool false, .int .i64 x] 60).cell 0 rfl
  have c := h1.cell 27 hk
  clear h h1 hk
  go_enter Tryz.func121, Tryz.ntmps121
  go_wp2_with fail
  go_end0
  exact ⟨rfl, below_alloc _ _⟩
theorem detE (w : World) (B : Nat) (hB : Blk w B #[.func (.func 96) #[.int .i64 2] #[], .int .i64 0] 222) : Calls Tryz.prog 123 #[pt B, .bool false, .int .i64 0, .int .i64 8000] w fun e w' => e = .returned (.bool false) ∧ Below w.heap.size w w' := by
  refine (stepG_any w B 0 false 0 8000 hB (by omega) (i64s (by omega))).mono ?_
  rintro e w' ⟨he, hD, hg⟩
  exact ⟨he, grown_same hg hB hD⟩
theorem look_no {w0 : World} {b0 : Nat} {w : World} {a : Ad} (h : Bt w0 b0 w a) : Calls Tryz.prog 58 #[pt a.B] w fun e w' => e = .returned (.tuple #[]) ∧ Below w.heap.size w w' := by
  have HH := hide h
  clear h
  go_enter Tryz.func58, Tryz.ntmps58
  go_wp2_with fail
  refine (poll_no HH.out).mono ?_
  rintro e w1 ⟨rfl, hb⟩
  have H1 := hide (HH.out.after hb)
  have HB1 := hide hb
  clear hb HH
  go_upto_region 1 with fail
  have a0 : ∀ x : BelowW w1, x.q.cell? ⟨a.B, 149, none⟩ = some (.int .i64 0) := fun x => (H1.out.after x.h).at 149 _ (by omega) rfl
  have a1 : ∀ x : BelowW w1, x.q.cell? ⟨a.B, 150, none⟩ = some (.int .i64 0) := fun x => (H1.out.after x.h).at 150 _ (by omega) rfl
  have a2 : ∀ x : BelowW w1, x.q.cell? ⟨a.B, 151, none⟩ = some (.int .i64 0) := fun x => (H1.out.after x.h).at 151 _ (by omega) rfl
  have v : ∀ x : BelowW w1, x.q.cell? ⟨a.B, 1, none⟩ = some (.slice (some ⟨a.Vg, 0, none⟩) 24 a.vc) := fun x => (H1.out.after x.h).at 1 _ (by omega) rfl
  have hne : Nonempty (BelowW w1) := ⟨⟨w1, Below.refl _ _⟩⟩
  refine reg_last_calm 13 rfl rfl _ rfl (by kernel_rfl) (by kernel_rfl) (by kernel_rfl) ?_
  simp only [List.take_succ_cons, List.take_zero]
  repeat (go_big_quiet_step (fail))
  refine wpQuiet_nil ?_
  rintro _ ⟨x, rfl⟩
  have H2 := hide (H1.out.after x.h)
  have HB2 := hide (below_two HB1.out x.h)
  clear a0 a1 a2 v hne H1 HB1
  go_simp
  refine (locate_no H2.out).mono ?_
  rintro e w3 ⟨rfl, hb⟩
  have H3 := hide (H2.out.after hb)
  have HB3 := hide (below_two HB2.out hb)
  clear hb H2 HB2
  go_wp2_with fail
  refine (orient_no H3.out).mono ?_
  rintro e w4 ⟨rfl, hb⟩
  have H4 := hide (H3.out.after hb)
  have HB4 := hide (below_two HB3.out hb)
  clear hb H3 HB3 x
  go_upto_region 3 with fail
  have a0 : ∀ x : BelowW w4, x.q.cell? ⟨a.B, 75, none⟩ = some (.bool false) := fun x => (H4.out.after x.h).at 75 _ (by omega) rfl
  have a1 : ∀ x : BelowW w4, x.q.cell? ⟨a.B, 76, none⟩ = some (.int .i64 0) := fun x => (H4.out.after x.h).at 76 _ (by omega) rfl
  have a2 : ∀ x : BelowW w4, x.q.cell? ⟨a.B, 119, none⟩ = some (pt a.Ba) := fun x => (H4.out.after x.h).at 119 _ (by omega) rfl
  have hne : Nonempty (BelowW w4) := ⟨⟨w4, Below.refl _ _⟩⟩
  refine reg_last_calm 10 rfl rfl _ rfl (by kernel_rfl) (by kernel_rfl) (by kernel_rfl) ?_
  simp only [List.take_succ_cons, List.take_zero]
  repeat (go_big_quiet_step (fail))
  refine wpQuiet_nil ?_
  rintro _ ⟨x, rfl⟩
  have H5 := hide (H4.out.after x.h)
  have HB5 := hide (below_two HB4.out x.h)
  clear a0 a1 a2 hne H4 HB4
  go_simp
  refine (stepBE _ _ 0 _ H5.out.Ba rfl).mono ?_
  rintro e w6 ⟨rfl, hb⟩
  have H6 := hide (H5.out.after hb)
  have HB6 := hide (below_two HB5.out hb)
  clear hb H5 HB5 x
  go_wp2_with fail
  refine (middles_no H6.out).mono ?_
  rintro e w7 ⟨rfl, hb⟩
  obtain ⟨W0, hW0, hB, B0, B1, hz⟩ := two_boxes w7 z3 z3 63 63
  have H7 := hide ((H6.out.after hb).after hB)
  have HB7 := hide (below_two (below_two HB6.out hb) hB)
  have HP := hide B1
  have xc0 : W0.cell? ⟨w7.heap.size, 0, none⟩ = some (.int .i64 0) := B0.cell 0 rfl
  have xf0 : W0.frozen? ⟨w7.heap.size, 0, none⟩ = false := B0.frozen 0
  have xs0 : W0.setCell ⟨w7.heap.size, 0, none⟩ (.int .i64 0) = W0 := B0.same (k := 0) rfl
  have xc1 : W0.cell? ⟨w7.heap.size, 1, none⟩ = some (.int .i64 0) := B0.cell 1 rfl
  have xf1 : W0.frozen? ⟨w7.heap.size, 1, none⟩ = false := B0.frozen 1
  have xs1 : W0.setCell ⟨w7.heap.size, 1, none⟩ (.int .i64 0) = W0 := B0.same (k := 1) rfl
  have xc2 : W0.cell? ⟨w7.heap.size, 2, none⟩ = some (.int .i64 0) := B0.cell 2 rfl
  have xf2 : W0.frozen? ⟨w7.heap.size, 2, none⟩ = false := B0.frozen 2
  have xs2 : W0.setCell ⟨w7.heap.size, 2, none⟩ (.int .i64 0) = W0 := B0.same (k := 2) rfl
  have yc0 : W0.cell? ⟨w7.heap.size + 1, 0, none⟩ = some (.int .i64 0) := B1.cell 0 rfl
  have yf0 : W0.frozen? ⟨w7.heap.size + 1, 0, none⟩ = false := B1.frozen 0
  have ys0 : W0.setCell ⟨w7.heap.size + 1, 0, none⟩ (.int .i64 0) = W0 := B1.same (k := 0) rfl
  have yc1 : W0.cell? ⟨w7.heap.size + 1, 1, none⟩ = some (.int .i64 0) := B1.cell 1 rfl
  have yf1 : W0.frozen? ⟨w7.heap.size + 1, 1, none⟩ = false := B1.frozen 1
  have ys1 : W0.setCell ⟨w7.heap.size + 1, 1, none⟩ (.int .i64 0) = W0 := B1.same (k := 1) rfl
  have yc2 : W0.cell? ⟨w7.heap.size + 1, 2, none⟩ = some (.int .i64 0) := B1.cell 2 rfl
  have yf2 : W0.frozen? ⟨w7.heap.size + 1, 2, none⟩ = false := B1.frozen 2
  have ys2 : W0.setCell ⟨w7.heap.size + 1, 2, none⟩ (.int .i64 0) = W0 := B1.same (k := 2) rfl
  clear hb H6 HB6 hB B0 B1
  go_upto_region 5 with fail
  clear xc0 xc1 xc2 xf0 xf1 xf2 xs0 xs1 xs2 yc0 yc1 yc2 yf0 yf1 yf2 ys0 ys1 ys2
  have a0 : ∀ x : BelowW W0, x.q.cell? ⟨a.B, 130, none⟩ = some (pt a.De) := fun x => (H7.out.after x.h).at 130 _ (by omega) rfl
  have a1 : ∀ x : BelowW W0, x.q.cell? ⟨a.B, 148, none⟩ = some (.bool false) := fun x => (H7.out.after x.h).at 148 _ (by omega) rfl
  have a2 : ∀ x : BelowW W0, x.q.cell? ⟨a.B, 1, none⟩ = some (.slice (some ⟨a.Vg, 0, none⟩) 24 a.vc) := fun x => (H7.out.after x.h).at 1 _ (by omega) rfl
  have a3 : ∀ x : BelowW W0, x.q.cell? ⟨a.Vg, 9, none⟩ = some (.int .i64 8000) := fun x => (H7.out.after x.h).val 9 (by omega) rfl
  have a4 : ∀ x : BelowW W0, x.q.cell? ⟨w7.heap.size + 1, 2, none⟩ = some (.int .i64 0) := fun x => HP.out.at 2 rfl x
  have hne : Nonempty (BelowW W0) := ⟨⟨W0, Below.refl _ _⟩⟩
  clear hW0
  refine reg_last_calm 24 rfl rfl _ rfl (by kernel_rfl) (by kernel_rfl) (by kernel_rfl) ?_
  simp only [List.take_succ_cons, List.take_zero]
  repeat (go_big_quiet_step (first | (go_at_call 123; exact calm_of (detE _ _ (H7.out.after (BelowW.h _)).De))))
  refine wpQuiet_nil ?_
  rintro _ ⟨x, rfl⟩
  have h8 := H7.out.after x.h
  have hb8 := below_two HB7.out x.h
  obtain ⟨W, hx⟩ := x
  have HB8 : Hid (Below w.heap.size w W) := hide hb8
  have c : W.cell? ⟨a.B, 147, none⟩ = some (.bool false) := h8.at 147 _ (by omega) rfl
  have f : W.frozen? ⟨a.B, 147, none⟩ = false := h8.fz 147
  have q : W.setCell ⟨a.B, 147, none⟩ (.bool false) = W := h8.eq 147 _ (by omega) rfl
  clear a0 a1 a2 a3 a4 hne H7 HB7 HP hb8 h8
  go_simp
  go_wp2_with fail
  go_end0
  exact ⟨rfl, HB8.out⟩
end Go.Proofs.YtapfaaaepnplcaaGreatDoor
