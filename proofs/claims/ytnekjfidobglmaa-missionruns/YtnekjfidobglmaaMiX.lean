/- Two runs side by side: what each keeps of the other; a run whose items are new; arrivals that came in. -/
import Derived.Test.YtnekjfidobglmaaMiU
import Derived.Test.YtnekjfidobglmaaMiA
namespace Go.Proofs.Ytnekjfidobglmaa
open Go.RowKit Go.Great Go.Maps Go.Deep Go.WideShapes Go.ChangeShapes

/-- a run all of whose blocks are new -/
def RunF (w : World) (R n : Nat) (r : Rn) (base : Nat) : Prop := ∃ iv m, Blk w R (rC iv r.p r.s r.l m) 70 ∧ MRow w base iv r.L ∧ MapJ w m n r.J ∧ base ≤ R ∧ base ≤ m
theorem RunF.run {w : World} {R n : Nat} {r : Rn} {base : Nat} (h : RunF w R n r base) : RunB w R n r := by
  obtain ⟨iv, m, h1, h2, h3, _, _⟩ := h
  exact ⟨iv, m, h1, h2.lower (Nat.zero_le _), h3⟩
theorem RunF.kept {w w' : World} {R n : Nat} {r : Rn} {base g : Nat} (h : RunF w R n r base) (hg : w.grownBy w' (some g)) (hlt : g < base) : RunF w' R n r base := by
  obtain ⟨iv, m, h1, h2, h3, h4, h5⟩ := h
  refine ⟨iv, m, h1.grown hg (fun e => by injection e with e; omega), h2.grown hg (.inr fun e => ?_), h3.kept hg (fun e => by injection e with e; omega), h4, h5⟩
  have := (h2.lt g e).1
  omega
theorem RunF.below {w w' : World} {R n : Nat} {r : Rn} {base : Nat} (h : RunF w R n r base) (hb : Below w.heap.size w w') : RunF w' R n r base := by
  obtain ⟨iv, m, h1, h2, h3, h4, h5⟩ := h
  exact ⟨iv, m, h1.after hb, h2.below hb, h3.below hb, h4, h5⟩
/-- a run keeps while another block changes -/
theorem RunB.other {w w' : World} {R n : Nat} {r : Rn} {g : Nat} {cs : Array Value} {t : TypeId} (h : RunB w R n r) (hG : Blk w g cs t) (h1 : 70 ≠ t) (h2 : 48 ≠ t) (hg : w.grownBy w' (some g)) : RunB w' R n r := by
  obtain ⟨iv, m, hB, hI, hM⟩ := h
  refine ⟨iv, m, hB.grown hg (fun e => ?_), hI.grown hg (hI.noblk hG h2), hM.kept hg (fun e => ?_)⟩
  · injection e with e
    unfold Blk at hB hG
    rw [← e, hG] at hB
    simp at hB
    exact h1 hB.2.symm
  · injection e with e
    exact hM.noblk hG e
theorem RefR.other {w w' : World} {iv : Value} {b : Nat} {r : Rn} {g : Nat} {cs : Array Value} {t : TypeId} (h : RefR w iv b r) (hG : Blk w g cs t) (h1 : 3 ≠ t) (h2 : 48 ≠ t) (hg : w.grownBy w' (some g)) : RefR w' iv b r := by
  refine ⟨h.i.grown hg (h.i.noblk hG h2), h.j.grown hg (fun e => ?_)⟩
  injection e with e
  have hB := h.j
  unfold Blk at hB hG
  rw [← e, hG] at hB
  simp at hB
  exact h1 hB.2.symm
theorem Blk.other {w w' : World} {X g : Nat} {cs ds : Array Value} {t u : TypeId} (h : Blk w X ds u) (hG : Blk w g cs t) (h1 : u ≠ t) (hg : w.grownBy w' (some g)) : Blk w' X ds u := by
  refine h.grown hg (fun e => ?_)
  injection e with e
  unfold Blk at h hG
  rw [← e, hG] at h
  simp at h
  exact h1 h.2.symm
theorem RunB.blk {w : World} {R n : Nat} {r : Rn} (h : RunB w R n r) : ∃ cs, Blk w R cs 70 := by
  obtain ⟨iv, m, hB, _⟩ := h
  exact ⟨_, hB⟩
theorem goal_shape (r : Rn) : ∃ k x y z s, goalC r = gC k x y z s := by
  unfold goalC
  split
  · exact ⟨_, _, _, _, _, rfl⟩
  · split
    · exact ⟨_, _, _, _, _, rfl⟩
    · split
      · exact ⟨_, _, _, _, _, rfl⟩
      · exact ⟨_, _, _, _, _, rfl⟩
theorem neq_goal (k x y z s : Int) (w : World) : (binOp .neq 50 (gV k x y z s) (gV k x y z s)).run Try.prog w = .ok (.bool false) w := by
  simp [go_sem]
set_option maxHeartbeats 2000000 in
theorem newF_any (s : Int) (L : List It) (v : Value) (w : World) (hR : Rws w v 4 itC L) : Calls Try.prog 22 #[.int .i64 s, v] w fun e w' => Below w.heap.size w w' ∧ ((chk L ≠ 0 ∧ e = .returned (.tuple #[.pointer none, .int .i64 (chk L)])) ∨ (chk L = 0 ∧ ∃ R, e = .returned (.tuple #[rP R, .int .i64 0]) ∧ RunF w' R 0 (rn0 s L) w.heap.size)) := by
  have CH := hide (check_any L v w hR)
  have CL := hide (fun W (hb : Below w.heap.size w W) (hc : chk L = 0) => sclone_any L v W (hR.below hb) (by have := (chk_ok hc).1; omega))
  obtain ⟨_, na, np, rfl, _⟩ := hR
  have hmm := @run_makeMap Try.prog
  generalize L.length = n at *
  by_cases hc : chk L = 0
  · rw [hc] at CH
    have HC := hide hc
    clear hc
    go_enter Try.func22, Try.ntmps22
    go_wp2_with fail
    refine CH.out.mono ?_
    rintro e w1 ⟨rfl, hb1⟩
    have Hb := hide hb1
    clear hb1
    go_wp2_with fail
    refine (CL.out _ Hb.out HC.out).mono ?_
    rintro e w2 ⟨u, rfl, hu, hb2⟩
    have Hu := hide hu
    have hs1 := Hb.out.size
    have hs2 := hb2.size
    replace Hb := hide (below_next Hb.out (Nat.le_refl _) hb2)
    obtain ⟨ua, uc, rfl⟩ := hu.shape
    clear hu hb2 CL
    generalize L.length = ln at *
    go_wp2_with fail
    go_ret2
    refine ⟨below_next Hb.out (Nat.le_refl _) (b2 _ _ _), .inr ⟨HC.out, w2.heap.size + 1, rfl, .slice ua ln uc, w2.heap.size, ?_, ?_, ?_, by omega, by omega⟩⟩
    · have := Blk.new (w2.alloc (.map #[] 0)) (rC (.slice ua ln uc) 0 s 0 w2.heap.size) 70
      rw [size_alloc] at this
      exact this
    · exact ((Hu.out.alloc _).alloc _).lower hs1
    · exact (MapJ.made _).alloc _
  · have HC := hide hc
    clear CL
    generalize chk L = c at *
    have hne : (c != 0) = true := by simp [hc]
    clear hc
    go_enter Try.func22, Try.ntmps22
    go_wp2_with fail
    refine CH.out.mono ?_
    rintro e w1 ⟨rfl, hb1⟩
    go_wp2_with fail
    go_ret2
    exact ⟨hb1, .inl ⟨HC.out, rfl⟩⟩
/-- arrivals that came in -/
abbrev boC (b : Bool) : List Value := [.bool b]
theorem open_bools {H : Type} {enc : TypeId × Value → H} {W : World} {v : Value} {d : DataW H} {p : List MemPlace} {r : Reach} {b0 : Nat} (hok : Value.okWide Try.prog W r b0 37 v) (h : DataW.Trod enc Try.prog W 0 (fun _ => true) true 37 v d p) (hw : ∀ q ∈ DataW.weights Try.prog 37 d, q ≤ reachBytes) : ∃ L, Rws W v 1 boC L ∧ L.length ≤ 140737488351232 := by
  obtain ⟨ad, ln, cp, rfl⟩ := okWide_slice Try.underlying37 hok
  obtain ⟨fuel, hf⟩ := h
  obtain ⟨L, _, h2, h3⟩ := open_rws (k := 1) (cel := boC) (ok := fun _ => True) (by omega) (fun _ => rfl) Try.underlying37 (by kernel_rfl) (fun n cs y h hl => by
    obtain ⟨b, e1, _⟩ := DataW.trod_bool Try.underlying4 h
    exact ⟨b, trivial, e1⟩) hf
  refine ⟨L, h2, ?_⟩
  rcases h3 with rfl | ⟨l, r, e, hl⟩
  · simp
  · have e : d = .slice l r := e
    have hb : Try.prog.bytesOf 4 = 1 := by kernel_rfl
    have hwt := hw ((l.length + r.length) * 1) (by rw [e]; simp [DataW.weights, Try.underlying37, hb])
    have hwt' : (l.length + r.length) * 1 ≤ 140737488351232 := hwt
    omega
end Go.Proofs.Ytnekjfidobglmaa
