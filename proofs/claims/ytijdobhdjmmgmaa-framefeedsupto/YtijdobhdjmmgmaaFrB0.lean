/- Rows of bytes that a call makes; clean. -/
import Derived.Test.YtijdobhdjmmgmaaFrSa
import Derived.Lib.AppendStr
import Derived.Lib.BufferRead
namespace Go.Proofs.Ytijdobhdjmmgmaa
open Go.RowKit Go.Great

def bytesV (l : List UInt8) : List Value := l.map fun b => Value.int .u8 (b.toNat : Int)
/-- a slice of bytes of the call's own -/
def BRow (w : World) (base : Nat) (v : Value) (l : List UInt8) : Prop := w.ownsRow base 5 1 v l.length (bytesV l)
theorem BRow.nil (w : World) (base : Nat) : BRow w base (.slice none 0 0) [] := World.ownsRow_nil _ _ _ _
theorem BRow.below {w w' : World} {base : Nat} {v : Value} {l : List UInt8} (h : BRow w base v l) (hb : Below w.heap.size w w') : BRow w' base v l := World.ownsRow.kept h (grown_below hb none) (by cases v.ownBlock <;> simp)
theorem BRow.alloc {w : World} {base : Nat} {v : Value} {l : List UInt8} (h : BRow w base v l) (o : Obj) : BRow (w.alloc o) base v l := h.below (below_alloc _ _)
theorem BRow.shape {w : World} {base : Nat} {v : Value} {l : List UInt8} (h : BRow w base v l) : ∃ a cap, v = .slice a l.length cap := by
  rcases h.2 with ⟨h1, h2⟩ | ⟨g, cap, cur, h1, _⟩
  · exact ⟨none, 0, by rw [h1, h2]⟩
  · exact ⟨_, cap, h1⟩
theorem BRow.text {w : World} {base : Nat} {v : Value} {l : List UInt8} (h : BRow w base v l) : (convert 32 9 v).run Try.prog w = .ok (.string (bs l)) w := by
  have h0 := h
  rcases h.2 with ⟨h1, h2⟩ | ⟨g, cap, cur, h1, _⟩
  · have : l = [] := List.eq_nil_of_length_eq_zero h2
    rw [h1, this, Lib.run_convert_nil_bytes w 32 9 5 0 (by kernel_rfl) (by kernel_rfl) (by kernel_rfl)]
    rfl
  · subst h1
    refine run_convert_bytes_back _ 32 9 5 ⟨g, 0, none⟩ cap l (by kernel_rfl) (by kernel_rfl) (by kernel_rfl) ?_
    intro j hj
    exact World.ownsRow.cells h0 (g := g) rfl j _ (by simp [bytesV, hj])
theorem bytesV_app (l m : List UInt8) : bytesV (l ++ m) = bytesV l ++ bytesV m := by simp [bytesV]
theorem bytesV_length (l : List UInt8) : (bytesV l).length = l.length := by simp [bytesV]
theorem bytesV_str (s : ByteArray) : Lib.strCells s = bytesV s.data.toList := rfl
theorem info_byte : (Try.prog.info? 5).map (fun i => (i.zero, i.size, i.bytes)) = some (some (.int .u8 0), 1, 1) := by kernel_rfl
theorem new_cell1 (w : World) (g : Nat) (hg : g = w.heap.size) (a : Value) (t : TypeId) : ∀ j u, [a][j]? = some u → (w.alloc (.cells #[a] t)).cell? ((⟨g, 0, none⟩ : Addr).add j) = some u := by
  subst hg
  intro j u hu
  rw [show (Addr.add ⟨w.heap.size, 0, none⟩ j) = ⟨w.heap.size, j, none⟩ by simp [Addr.add]; exact fun h => h.symm, World.cell?_alloc_new]
  simpa using hu
/-- a text without the mark -/
def cleanL (l : List UInt8) : List UInt8 := l.filter fun x => x != 253
theorem cleanL_snoc (l : List UInt8) (x : UInt8) : cleanL (l ++ [x]) = if x = 253 then cleanL l else cleanL l ++ [x] := by
  unfold cleanL
  rw [List.filter_append]
  by_cases h : x = 253 <;> simp [h]
theorem cleanL_le (l : List UInt8) : (cleanL l).length ≤ l.length := List.length_filter_le _ _
set_option maxHeartbeats 2000000 in
theorem clean_any (s : ByteArray) (hs : s.size ≤ 140737488351232) (w : World) : Calls Try.prog 20 #[.string s] w fun e w' => e = .returned (.string (bs (cleanL s.data.toList))) ∧ Below w.heap.size w w' := by
  obtain ⟨i0, hi, hz0, hz1, hz2⟩ := info_parts info_byte
  have hdl := list_size s
  go_enter Try.func20, Try.ntmps20
  go_wp2_with fail
  go_loopw [3, 4] (fun v i wx => ∃ k : Nat, k ≤ s.size ∧ i = .int .i64 k ∧ BRow wx w.heap.size v (cleanL (s.data.toList.take k)) ∧ Below w.heap.size w wx) (fun _ i _ => s.size - (intOf i).toNat)
  case atStart => exact ⟨0, Nat.zero_le _, rfl, BRow.nil _ _, Below.refl _ _⟩
  case round =>
    obtain ⟨k, hk, rfl, hR, hB⟩ := hrel
    have HB := hide hB
    by_cases hlt : k < s.size
    · have hT : cleanL (s.data.toList.take (k + 1)) = if s[k] = 253 then cleanL (s.data.toList.take k) else cleanL (s.data.toList.take k) ++ [s[k]] := by rw [take_snoc s k hlt, cleanL_snoc]
      have hle := cleanL_le (s.data.toList.take k)
      rw [List.length_take] at hle
      by_cases hx : s[k] = 253
      · have hx' : (s[k].toNat : Int) = 253 := by rw [hx]; rfl
        rw [if_pos hx] at hT
        have HR : Hid (BRow wr w.heap.size u3 (cleanL (s.data.toList.take (k + 1)))) := by show BRow _ _ _ _; rw [hT]; exact hR
        clear hR hB hT hx hle hi hz0 hz1 hz2
        go_wp2_with fail
        go_roundw
        case rel => exact ⟨k + 1, by omega, by go_num, HR.out, HB.out⟩
        case measure => simp [intOf]; omega
      · have hx' : ((s[k].toNat : Int) == 253) = false := by
          have : s[k].toNat ≠ 253 := fun e => hx (UInt8.toNat_inj.1 e)
          simp; omega
        rw [if_neg hx] at hT
        have HT := hide hT
        generalize cleanL (s.data.toList.take k) = l at HT hR hle
        have HO : Hid ((wr.alloc (.cells #[.int .u8 (s[k].toNat : Int)] 5)).ownsRow w.heap.size 5 1 u3 l.length (bytesV l)) := hR.alloc _
        have hws := hB.size
        clear hR hB hT hx
        go_wp2_with (at_builtin; refine wpList_append_own _ rfl (.tmp 15) (.tmp 19) 32 rfl w.heap.size 5 i0 _ 1 1 Try.underlying32 hi hz0 hz1 hz2 rfl (by decide) _ _ _ rfl HO.out ⟨wr.heap.size, 0, none⟩ 1 1 [.int .u8 (s[k].toNat : Int)] rfl rfl ?c1 ?c2 ?c3 ?c4 ?c5 ?_)
        case c1 => exact new_cell1 _ _ rfl _ _
        case c2 => intro u hu; simp at hu; subst hu; rfl
        case c3 => unfold maxLen; omega
        case c4 => omega
        case c5 => rw [size_alloc]; omega
        intro v' w5 hown5 hgrow5 _
        have HR5 : Hid (BRow w5 w.heap.size v' (cleanL (s.data.toList.take (k + 1)))) := by
          show World.ownsRow _ _ _ _ _ _ _
          rw [HT.out, List.length_append, bytesV_app]; exact hown5
        have HB5 : Hid (Below w.heap.size w w5) := ((HB.out.alloc hws _).grown hgrow5 (by rw [size_alloc]; omega) (fun j e => (HO.out.lt j e).1))
        clear hown5 hgrow5 HO hi hz0 hz1 hz2
        go_wp2_with fail
        go_roundw
        case rel => exact ⟨k + 1, by omega, by go_num, HR5.out, HB5.out⟩
        case measure => simp [intOf]; omega
    · rw [List.take_of_length_le (by omega)] at hR
      have htx := hR.text
      clear hR hi hz0 hz1 hz2
      go_wp2_with fail
      go_ret
      exact ⟨rfl, HB.out⟩
theorem own_apart {w : World} {b1 b2 n m : Nat} {v u : Value} {xs ys : List Value} (h1 : w.ownsRow b1 5 1 v n xs) (h2 : w.ownsRow b2 23 3 u m ys) : v.ownBlock = none ∨ v.ownBlock ≠ u.ownBlock := by
  rcases h1.2 with ⟨e, _⟩ | ⟨g, cap, cur, e, _, hh, _⟩
  · exact .inl (by rw [e]; rfl)
  · rcases h2.2 with ⟨e2, _⟩ | ⟨g2, cap2, cur2, e2, _, hh2, _⟩
    · exact .inr (by rw [e, e2]; simp [Value.ownBlock])
    · refine .inr fun he => ?_
      rw [e, e2] at he
      simp [Value.ownBlock] at he
      subst he
      rw [hh] at hh2
      simp at hh2
theorem pair_b {w w' : World} {b1 b2 n m : Nat} {v u : Value} {xs ys : List Value} (h1 : w.ownsRow b1 5 1 v n xs) (h2 : w.ownsRow b2 23 3 u m ys) (hg : w.grownBy w' v.ownBlock) : w'.ownsRow b2 23 3 u m ys := by
  refine h2.kept hg ?_
  rcases own_apart h1 h2 with h | h
  · rw [h]
    cases hu : u.ownBlock with
    | none => exact .inl rfl
    | some k => exact .inr (by simp)
  · exact .inr fun e => h e.symm
theorem pair_f {w w' : World} {b1 b2 n m : Nat} {v u : Value} {xs ys : List Value} (h1 : w.ownsRow b1 5 1 v n xs) (h2 : w.ownsRow b2 23 3 u m ys) (hg : w.grownBy w' u.ownBlock) : w'.ownsRow b1 5 1 v n xs := h1.kept hg (own_apart h1 h2)
end Go.Proofs.Ytijdobhdjmmgmaa
