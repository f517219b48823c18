/- Rows of bytes that a call makes; clean. -/
import Derived.Test.YtgdjphiicgiegaaFrSa
import Derived.Lib.AppendStr
import Derived.Lib.BufferRead
namespace Go.Proofs.Ytgdjphiicgiegaa
open Go.RowKit Go.Great

def bytesV (l : List UInt8) : List Value := l.map fun b => Value.int .u8 (b.toNat : Int)
/-- a slice of bytes of the call's own -/
def BRow (w : World) (base : Nat) (v : Value) (l : List UInt8) : Prop := w.ownsRow base 5 1 v l.length (bytesV l)
theorem BRow.nil (w : World) (base : Nat) : BRow w base (.slice none 0 0) [] := World.ownsRow_nil _ _ _ _
theorem BRow.below {w w' : World} {base : Nat} {v : Value} {l : List UInt8} (h : BRow w base v l) (hb : Below w.heap.size w w') : BRow w' base v l := World.ownsRow.kept h (grown_below hb none) (by cases v.ownBlock <;> simp)
theorem BRow.alloc {w : World} {base : Nat} {v : Value} {l : List UInt8} (h : BRow w base v l) (o : Obj) : BRow (w.alloc o) base v l := h.below (below_alloc _ _)
theorem BRow.shape {w : World} {base : Nat} {v : Value} {l : List UInt8} (h : BRow w base v l) : ∃ a cap, v = .slice a l.length cap := by
  rcases h.2 with ⟨h1, h2⟩ | ⟨g, cap, cur, h1, _⟩
  · exact ⟨none, 0, by rw [h1, h2]⟩
  · exact ⟨_, cap, h1⟩
theorem BRow.text {w : World} {base : Nat} {v : Value} {l : List UInt8} (h : BRow w base v l) : (convert 42 9 v).run Try.prog w = .ok (.string (bs l)) w := by
  have h0 := h
  rcases h.2 with ⟨h1, h2⟩ | ⟨g, cap, cur, h1, _⟩
  · have : l = [] := List.eq_nil_of_length_eq_zero h2
    rw [h1, this, Lib.run_convert_nil_bytes w 42 9 5 0 (by kernel_rfl) (by kernel_rfl) (by kernel_rfl)]
    rfl
  · subst h1
    refine run_convert_bytes_back _ 42 9 5 ⟨g, 0, none⟩ cap l (by kernel_rfl) (by kernel_rfl) (by kernel_rfl) ?_
    intro j hj
    exact World.ownsRow.cells h0 (g := g) rfl j _ (by simp [bytesV, hj])
theorem bytesV_app (l m : List UInt8) : bytesV (l ++ m) = bytesV l ++ bytesV m := by simp [bytesV]
theorem bytesV_length (l : List UInt8) : (bytesV l).length = l.length := by simp [bytesV]
theorem bytesV_str (s : ByteArray) : Lib.strCells s = bytesV s.data.toList := rfl
theorem info_byte : (Try.prog.info? 5).map (fun i => (i.zero, i.size, i.bytes)) = some (some (.int .u8 0), 1, 1) := by kernel_rfl
theorem new_cell1 (w : World) (g : Nat) (hg : g = w.heap.size) (a : Value) (t : TypeId) : ∀ j u, [a][j]? = some u → (w.alloc (.cells #[a] t)).cell? ((⟨g, 0, none⟩ : Addr).add j) = some u := by
  subst hg
  intro j u hu
  rw [show (Addr.add ⟨w.heap.size, 0, none⟩ j) = ⟨w.heap.size, j, none⟩ by simp [Addr.add]; exact fun h => h.symm, World.cell?_alloc_new]
  simpa using hu
/-- a text without the mark -/
def cleanL (l : List UInt8) : List UInt8 := l.filter fun x => x != 253
theorem cleanL_snoc (l : List UInt8) (x : UInt8) : cleanL (l ++ [x]) = if x = 253 then cleanL l else cleanL l ++ [x] := by
  unfold cleanL
  rw [List.filter_append]
  by_cases h : x = 253 <;> simp [h]
theorem cleanL_le (l : List UInt8) : (cleanL l).length ≤ l.length := List.length_filter_le _ _
theorem own_apart {w : World} {b1 b2 n m : Nat} {v u : Value} {xs ys : List Value} (h1 : w.ownsRow b1 5 1 v n xs) (h2 : w.ownsRow b2 28 3 u m ys) : v.ownBlock = none ∨ v.ownBlock ≠ u.ownBlock := by
  rcases h1.2 with ⟨e, _⟩ | ⟨g, cap, cur, e, _, hh, _⟩
  · exact .inl (by rw [e]; rfl)
  · rcases h2.2 with ⟨e2, _⟩ | ⟨g2, cap2, cur2, e2, _, hh2, _⟩
    · exact .inr (by rw [e, e2]; simp [Value.ownBlock])
    · refine .inr fun he => ?_
      rw [e, e2] at he
      simp [Value.ownBlock] at he
      subst he
      rw [hh] at hh2
      simp at hh2
theorem pair_b {w w' : World} {b1 b2 n m : Nat} {v u : Value} {xs ys : List Value} (h1 : w.ownsRow b1 5 1 v n xs) (h2 : w.ownsRow b2 28 3 u m ys) (hg : w.grownBy w' v.ownBlock) : w'.ownsRow b2 28 3 u m ys := by
  refine h2.kept hg ?_
  rcases own_apart h1 h2 with h | h
  · rw [h]
    cases hu : u.ownBlock with
    | none => exact .inl rfl
    | some k => exact .inr (by simp)
  · exact .inr fun e => h e.symm
theorem pair_f {w w' : World} {b1 b2 n m : Nat} {v u : Value} {xs ys : List Value} (h1 : w.ownsRow b1 5 1 v n xs) (h2 : w.ownsRow b2 28 3 u m ys) (hg : w.grownBy w' u.ownBlock) : w'.ownsRow b1 5 1 v n xs := h1.kept hg (own_apart h1 h2)
end Go.Proofs.Ytgdjphiicgiegaa
