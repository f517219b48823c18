/- Lists of messages in memory. -/
import Derived.Test.YtgdjphiicgiegaaOp1
import Derived.Test.YtgdjphiicgiegaaFrBa
import Derived.Laws.AppendOwnNone
namespace Go.Proofs.Ytgdjphiicgiegaa
open Go.RowKit Go.Great Go.Deep Go.WideShapes Go.ChangeShapes

def cellsM (ms : List (Int × Value)) : List Value := ms.flatMap fun m => [.int .u8 m.1, m.2]
theorem cellsM_length (ms : List (Int × Value)) : (cellsM ms).length = ms.length * 2 := by
  induction ms with
  | nil => rfl
  | cons f fs ih => simp [cellsM] at ih ⊢; omega
theorem cellsM_app (fs gs : List (Int × Value)) : cellsM (fs ++ gs) = cellsM fs ++ cellsM gs := by simp [cellsM]
theorem cellsM_one (k : Int) (u : Value) : cellsM [(k, u)] = [.int .u8 k, u] := by simp [cellsM]
theorem cellsM_at (ms : List (Int × Value)) : ∀ (i : Nat) (h : i < ms.length), (cellsM ms)[i * 2]? = some (.int .u8 ms[i].1) ∧ (cellsM ms)[i * 2 + 1]? = some ms[i].2 := by
  induction ms with
  | nil => intro i h; simp at h
  | cons f fs ih =>
    intro i h
    have e : cellsM (f :: fs) = .int .u8 f.1 :: f.2 :: cellsM fs := by simp [cellsM]
    cases i with
    | zero => rw [e]; simp
    | succ i =>
      have := ih i (by simpa using h)
      rw [e, show (i + 1) * 2 = i * 2 + 2 by omega, show i * 2 + 2 + 1 = (i * 2 + 1) + 2 by omega]
      simpa using this
/-- a slice of messages, as it reads -/
def MsL (w : World) (v : Value) (ms : List (Int × Value)) : Prop :=
  ∃ a cap, v = .slice a ms.length cap ∧ (0 < ms.length → ∃ g o, a = some ⟨g, o, none⟩ ∧ g < w.heap.size ∧ ∀ i (h : i < ms.length), w.cell? ⟨g, o + i * 2, none⟩ = some (.int .u8 ms[i].1) ∧ w.cell? ⟨g, o + i * 2 + 1, none⟩ = some ms[i].2)
/-- a slice of messages of the call's own -/
def MRow (w : World) (base : Nat) (v : Value) (ms : List (Int × Value)) : Prop := w.ownsRow base 25 2 v ms.length (cellsM ms)
theorem MRow.nil (w : World) (base : Nat) : MRow w base (.slice none 0 0) [] := World.ownsRow_nil _ _ _ _
theorem MRow.msl {w : World} {base : Nat} {v : Value} {ms : List (Int × Value)} (h : MRow w base v ms) : MsL w v ms := by
  have h0 := h
  rcases h.2 with ⟨h1, h2⟩ | ⟨g, cap, cur, h1, hb, hh, _⟩
  · exact ⟨none, 0, by rw [h1, h2], fun h => by omega⟩
  · subst h1
    refine ⟨_, cap, rfl, fun _ => ⟨g, 0, rfl, lt_of_block hh, fun i hi => ?_⟩⟩
    obtain ⟨c0, c1⟩ := cellsM_at ms i hi
    rw [Nat.zero_add]
    exact ⟨(World.ownsRow.cellAt h0 _ (by omega)).trans c0, (World.ownsRow.cellAt h0 _ (by omega)).trans c1⟩
theorem MsL.below {w w' : World} {v : Value} {ms : List (Int × Value)} (h : MsL w v ms) (hb : Below w.heap.size w w') : MsL w' v ms := by
  obtain ⟨a, cap, e, h1⟩ := h
  refine ⟨a, cap, e, fun h0 => ?_⟩
  obtain ⟨g, o, e2, hg, hc⟩ := h1 h0
  have hs := hb.size
  exact ⟨g, o, e2, by omega, fun i hi => ⟨(hb.cell (p := ⟨g, o + i * 2, none⟩) hg).trans (hc i hi).1, (hb.cell (p := ⟨g, o + i * 2 + 1, none⟩) hg).trans (hc i hi).2⟩⟩
theorem MRow.below {w w' : World} {base : Nat} {v : Value} {ms : List (Int × Value)} (h : MRow w base v ms) (hb : Below w.heap.size w w') : MRow w' base v ms := World.ownsRow.kept h (grown_below hb none) (by cases v.ownBlock <;> simp)
theorem info_msg : (Try.prog.info? 25).map (fun i => (i.zero, i.size, i.bytes)) = some (some (.agg #[.int .u8 0, .slice none 0 0]), 2, 32) := by kernel_rfl
/-- rows of two sorts of elements lie apart -/
theorem rows_apart {w : World} {b1 b2 n m s1 s2 : Nat} {t1 t2 : TypeId} {v u : Value} {xs ys : List Value} (hne : t1 ≠ t2) (h1 : w.ownsRow b1 t1 s1 v n xs) (h2 : w.ownsRow b2 t2 s2 u m ys) : v.ownBlock = none ∨ v.ownBlock ≠ u.ownBlock := by
  rcases h1.2 with ⟨e, _⟩ | ⟨g, cap, cur, e, _, hh, _⟩
  · exact .inl (by rw [e]; rfl)
  · rcases h2.2 with ⟨e2, _⟩ | ⟨g2, cap2, cur2, e2, _, hh2, _⟩
    · exact .inr (by rw [e, e2]; simp [Value.ownBlock])
    · refine .inr fun he => ?_
      rw [e, e2] at he
      simp [Value.ownBlock] at he
      subst he
      rw [hh] at hh2
      simp at hh2
      exact hne hh2.2
theorem row_kept {w w' : World} {b1 b2 n m s1 s2 : Nat} {t1 t2 : TypeId} {v u : Value} {xs ys : List Value} (hne : t1 ≠ t2) (h1 : w.ownsRow b1 t1 s1 v n xs) (h2 : w.ownsRow b2 t2 s2 u m ys) (hg : w.grownBy w' u.ownBlock) : w'.ownsRow b1 t1 s1 v n xs := h1.kept hg (rows_apart hne h1 h2)
theorem bslice_lo (a : Option Addr) (n cap l : Nat) (hl : l ≤ n) (wx : World) : (Instr.slice 42 (.slice a n cap) (some (.int .i64 l)) none none).run Try.prog wx = .ok (sliced a l n cap 1) wx := by
  have ht : Try.prog.underlying 42 = some (.slice (Try.prog.elem 42)) := by kernel_rfl
  have hs : (sizeOf (Try.prog.elem 42)).run Try.prog wx = .ok 1 wx := Try.sizeOf5 wx
  rw [run_slice_l wx 42 a n cap ht .i64 l (by omega) (by omega), hs]
  simp [Result.andThen]
theorem bslice_hi (a : Option Addr) (n cap l : Nat) (hl : l ≤ cap) (wx : World) : (Instr.slice 42 (.slice a n cap) none (some (.int .i64 l)) none).run Try.prog wx = .ok (sliced a 0 l cap 1) wx := by
  have ht : Try.prog.underlying 42 = some (.slice (Try.prog.elem 42)) := by kernel_rfl
  have hs : (sizeOf (Try.prog.elem 42)).run Try.prog wx = .ok 1 wx := Try.sizeOf5 wx
  rw [run_slice_h wx 42 a n cap ht .i64 l (by omega) (by omega), hs]
  simp [Result.andThen]
theorem bytes_back {w : World} {a : Option Addr} {c : Nat} {l : List UInt8} (h : 0 < l.length → ∃ g o, a = some ⟨g, o, none⟩ ∧ ∀ i (hi : i < l.length), w.cell? ⟨g, o + i, none⟩ = some (.int .u8 (l[i].toNat : Int))) (ha : a = none → l.length = 0 ∧ c = 0) : (convert 42 9 (.slice a l.length c)).run Try.prog w = .ok (.string (bs l)) w := by
  cases a with
  | none =>
    obtain ⟨h1, h2⟩ := ha rfl
    have : l = [] := List.eq_nil_of_length_eq_zero h1
    rw [this, h2, List.length_nil, Lib.run_convert_nil_bytes w 42 9 5 0 (by kernel_rfl) (by kernel_rfl) (by kernel_rfl)]
    rfl
  | some ad =>
    refine run_convert_bytes_back _ 42 9 5 ad c l (by kernel_rfl) (by kernel_rfl) (by kernel_rfl) ?_
    intro j hj
    obtain ⟨g, o, e, hc⟩ := h (by omega)
    injection e with e
    subst e
    rw [add_plain']
    exact hc j hj
theorem BRow.cell {w : World} {base g n c : Nat} {l : List UInt8} (h : BRow w base (.slice (some ⟨g, 0, none⟩) n c) l) (i : Nat) (hi : i < l.length) : w.cell? ⟨g, i, none⟩ = some (.int .u8 (l[i].toNat : Int)) := by
  have := World.ownsRow.cells h (g := g) rfl i (.int .u8 (l[i].toNat : Int)) (by simp [bytesV, hi])
  rw [add_plain', Nat.zero_add] at this
  exact this
/-- the first bytes of a row -/
theorem bhead {w : World} {base : Nat} {v : Value} {l : List UInt8} (h : BRow w base v l) (k : Nat) (hk : k ≤ l.length) : ∃ u, (∀ wx, (Instr.slice 42 v none (some (.int .i64 k)) none).run Try.prog wx = .ok u wx) ∧ ∀ w', BRow w' base v l → (convert 42 9 u).run Try.prog w' = .ok (.string (bs (l.take k))) w' := by
  rcases h.2 with ⟨rfl, h0⟩ | ⟨g, cap, cur, rfl, hb, hh, hcap, _⟩
  · have hl : l = [] := List.eq_nil_of_length_eq_zero h0
    subst hl
    obtain rfl : k = 0 := by simpa using hk
    exact ⟨_, fun wx => bslice_hi none 0 0 0 (by omega) wx, fun w' _ => bytes_back (w := w') (a := none) (c := 0) (l := []) (fun h => by simp at h) (fun _ => ⟨rfl, rfl⟩)⟩
  · refine ⟨_, fun wx => bslice_hi _ l.length cap k (by omega) wx, fun w' h' => ?_⟩
    have e : sliced (some ⟨g, 0, none⟩) 0 k cap 1 = .slice (some ⟨g, 0, none⟩) (l.take k).length cap := by
      have : (l.take k).length = k := by rw [List.length_take]; omega
      rw [this]
      unfold sliced
      by_cases hc : cap = 0
      · simp [hc]
      · simp [hc, add_plain']
    rw [e]
    refine bytes_back (fun _ => ⟨g, 0, rfl, fun i hi => ?_⟩) (fun e => by cases e)
    have hi2 : i < l.length := by rw [List.length_take] at hi; omega
    rw [Nat.zero_add, h'.cell i hi2]
    simp
/-- the other bytes of a row -/
theorem btail {w : World} {base : Nat} {v : Value} {l : List UInt8} (h : BRow w base v l) (k : Nat) (hk : k ≤ l.length) : ∃ u, (∀ wx, (Instr.slice 42 v (some (.int .i64 k)) none none).run Try.prog wx = .ok u wx) ∧ ∀ w', BRow w' base v l → (convert 42 9 u).run Try.prog w' = .ok (.string (bs (l.drop k))) w' := by
  rcases h.2 with ⟨rfl, h0⟩ | ⟨g, cap, cur, rfl, hb, hh, hcap, _⟩
  · have hl : l = [] := List.eq_nil_of_length_eq_zero h0
    subst hl
    obtain rfl : k = 0 := by simpa using hk
    exact ⟨_, fun wx => bslice_lo none 0 0 0 (by omega) wx, fun w' _ => bytes_back (w := w') (a := none) (c := 0) (l := []) (fun h => by simp at h) (fun _ => ⟨rfl, rfl⟩)⟩
  · refine ⟨_, fun wx => bslice_lo _ l.length cap k (by omega) wx, fun w' h' => ?_⟩
    have hd : (l.drop k).length = l.length - k := List.length_drop
    by_cases hc : cap = k
    · have e : sliced (some ⟨g, 0, none⟩) k l.length cap 1 = .slice (some ⟨g, 0, none⟩) (l.drop k).length (cap - k) := by
        rw [hd]; unfold sliced; simp [hc]
      rw [e]
      exact bytes_back (fun h => by omega) (fun e => by cases e)
    · have e : sliced (some ⟨g, 0, none⟩) k l.length cap 1 = .slice (some ⟨g, k, none⟩) (l.drop k).length (cap - k) := by
        rw [hd]; unfold sliced; simp [hc, add_plain']
      rw [e]
      refine bytes_back (fun _ => ⟨g, k, rfl, fun i hi => ?_⟩) (fun e => by cases e)
      rw [h'.cell (k + i) (by omega)]
      simp
end Go.Proofs.Ytgdjphiicgiegaa
