/- Package store: each, with the closure of move. -/
import Derived.Test.YtcjahdgppnmdkaaSo7
set_option maxRecDepth 100000
namespace Go.Proofs.Ytcjahdgppnmdkaa
open Go.RowKit Go.Great

def szM (k : Kp) (id : Int) (vl i : Nat) : Nat := if (i : Int) = id then 4 + vl else szK k i
def restM (k : Kp) (id : Int) (vl : Nat) : Nat → Nat → Nat
  | _, 0 => 0
  | i, n + 1 => szM k id vl i + restM k id vl (i + 1) n
theorem txt_len (C : List UInt8) (hC : C.length = 8192) (ac : Nat) (hac : ac < 2) (s : Sg) (hs : s.lo + s.n ≤ 4096) : (txt C ac s).length = s.n := by
  unfold txt; rw [List.length_take, List.length_drop]; omega
theorem addS_ok {s i : Nat} {t : List UInt8} {m : Mv} (ho : On m.σ) (h : (addS s i t m).2 = true) : On (addS s i t m).1.σ ∧ (addS s i t m).1.en = m.en + 4 + t.length := by
  unfold addS at h ⊢
  by_cases hc : (progS m.σ (s * 4096 + m.en) (recB i t)).2 = true
  · rw [if_pos hc]; exact ⟨progS_on _ _ _ ho hc, rfl⟩
  · rw [if_neg hc] at h; cases h
structure EachMid (w : World) (B N S R : Nat) (ac : Nat) (tu tn : Int) (en : Int) (k : Kp) (m : Mv) (wr : World) : Prop where
  on : On m.σ
  f : Fl wr R m.σ
  n : So wr N (fp R) ((1 - ac : Nat) : Int) tn m.en m.k
  s : So wr S (fp R) ac tu en k
  b : wr.heap[B]? = some (.cells #[fp N] 24 (0, 0))
  k : Kep2 R N w wr
theorem EachMid.below {w : World} {B N S R : Nat} {ac : Nat} {tu tn : Int} {en : Int} {k : Kp} {m : Mv} {wr w1 : World} (h : EachMid w B N S R ac tu tn en k m wr) (hb : Below wr.heap.size wr w1) : EachMid w B N S R ac tu tn en k m w1 :=
  ⟨h.on, h.f.below hb, h.n.below hb, h.s.below hb, by rw [hb.block B (lt_of_block h.b)]; exact h.b, h.k.below hb⟩
/-- behind an add -/
theorem EachMid.add {w : World} {B N S R : Nat} {ac : Nat} {tu tn : Int} {en : Int} {k : Kp} {m m' : Mv} {wr w1 : World} (h : EachMid w B N S R ac tu tn en k m wr) (hNS : N ≠ S) (on : On m'.σ) (f : Fl w1 R m'.σ) (n : So w1 N (fp R) ((1 - ac : Nat) : Int) tn m'.en m'.k) (kk : Kep2 R N wr w1) : EachMid w B N S R ac tu tn en k m' w1 := by
  have h1 := h.f.ne h.s
  have h2 := box_ne h.n h.b
  have h3 : B ≠ R := by
    intro e
    subst e
    have := h.b.symm.trans h.f.blk
    simp [flRow, bytesV] at this
  exact ⟨on, f, n, h.s.kep2 kk (Ne.symm h1) (Ne.symm hNS), kk.other h.b h3 h2, h.k.trans kk⟩
end Go.Proofs.Ytcjahdgppnmdkaa
