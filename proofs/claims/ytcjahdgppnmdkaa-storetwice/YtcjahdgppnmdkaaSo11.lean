/- Package store: order. -/
import Derived.Test.YtcjahdgppnmdkaaSo10
set_option maxRecDepth 100000
namespace Go.Proofs.Ytcjahdgppnmdkaa
open Go.RowKit Go.Great

theorem bs_extract (l : List UInt8) (a b : Nat) : (bs l).extract a b = bs ((l.drop a).take (b - a)) := by
  apply ByteArray.ext
  apply Array.ext'
  simp [bs, ByteArray.data_extract, List.extract_eq_take_drop]
theorem secL_len {C : List UInt8} (hC : C.length = 8192) {s : Nat} (hs : s < 2) : (secL C s).length = 4096 := by
  unfold secL; rw [List.length_take, List.length_drop]; omega
theorem bs_at (l : List UInt8) (j : Nat) (h : j < (bs l).size) : (bs l)[j] = l.getD j 0 := by
  rw [← getD_ba (bs l) j h, bs_list]
theorem actI_cases (a b : UInt8) : actI a b = -1 ∨ actI a b = 0 ∧ (turnI a = 0 ∨ turnI a = 1 ∨ turnI a = 2) ∨ actI a b = 1 ∧ (turnI b = 0 ∨ turnI b = 1 ∨ turnI b = 2) := by
  unfold actI
  rcases turnI_cases a with h | h | h | h <;> rcases turnI_cases b with g | g | g | g <;> rw [h, g] <;> decide
theorem KOk.mono {k : Kp} {e f : Nat} (h : KOk k e) (hf : e ≤ f) : KOk k f := ⟨fun i hi => ⟨Nat.le_trans (h.1 i hi).1 hf, (h.1 i hi).2⟩, Nat.le_trans h.2 hf⟩
theorem restM_none (k : Kp) : restM k (-1) 0 0 3 = sizeK k := by
  have h : ∀ i : Nat, szM k (-1) 0 i = szK k i := fun i => by unfold szM; rw [if_neg (by omega)]
  show szM k (-1) 0 0 + (szM k (-1) 0 1 + (szM k (-1) 0 2 + 0)) = _
  rw [h, h, h]
  unfold sizeK
  omega
theorem bs_at0 {l : List UInt8} {a : ByteArray} (e : bs l = a) (h : 0 < a.size) : a[0]'h = l.getD 0 0 := by subst e; exact bs_at l 0 h
end Go.Proofs.Ytcjahdgppnmdkaa
