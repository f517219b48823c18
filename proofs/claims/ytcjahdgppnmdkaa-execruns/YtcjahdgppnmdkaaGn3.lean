/- For every layer: a region whose last three operations wait for all others, one behind the other; an append of one element beyond the bound of the kit's law. -/
import Derived.Test.YtcjahdgppnmdkaaGn0
set_option maxRecDepth 100000
namespace Go.Proofs.Ytcjahdgppnmdkaa
open Go.RowKit Go.Great

theorem rep_push (n : Nat) : (Array.replicate n false).push false = Array.replicate (n + 1) false := by rw [Array.replicate_succ]
/-- the others only read; then three operations, one behind the other -/
theorem reg_last3 {P : Program} {Q : Exit → Act → World → Prop} {id : Nat} {a : Act} {w : World} {l : List Oper} (n : Nat) (o1 o2 o3 : Oper) (hl : l.take n ++ [o1] ++ [o2] ++ [o3] = l) (hlen : (l.take n).length = n) (hm : P.follows .mixedOrders = true) (hB : Region.lexB .any (l.take n).toArray = true) (p1 : plainB2 .any (l.take n) o1 = true) (p2 : plainB2 .any (l.take n ++ [o1]) o2 = true) (p3 : plainB2 .any (l.take n ++ [o1] ++ [o2]) o3 = true)
    (h : wpQuiet P (l.take n).toArray (fun w' => ∃ k, w' = w.drewN k) (fun a' => ∀ k, o1.wp P a' (w.drewN k) (fun a1 w1 => o2.wp P a1 w1 (fun a2 w2 => o3.wp P a2 w2 (fun a3 w3 => Q .normal a3 w3) Q) (thenLast2 P o3 Q)) (thenLast2 P o2 (thenLast2 P o3 Q))) (l.take n) a) : (Code.region id l.toArray true).wp P Q a w := by
  have q1 := plain_of2 p1
  have q2 := plain_of2 p2
  have q3 := plain_of2 p3
  simp only [Region.lexB, Bool.and_eq_true] at hB
  refine wp_region_any hm ?_
  have h1 := wpAnyQ_lex (C := fun w' => ∃ k, w' = w.drewN k) (md := .any) hB.1 (l.take n) 0 (Array.replicate (l.take n).length false) a (by simp) (by simpa using hB.2) h
  have h2 := wpAny_of_quiet (P := P) (md := .any) (ops := (l.take n).toArray) (C := fun w' => ∃ k, w' = w.drewN k) (Q := fun a' => ∀ k, o1.wp P a' (w.drewN k) (fun a1 w1 => o2.wp P a1 w1 (fun a2 w2 => o3.wp P a2 w2 (fun a3 w3 => Q .normal a3 w3) Q) (thenLast2 P o3 Q)) (thenLast2 P o2 (thenLast2 P o3 Q))) (Q' := thenLast2 P o1 (thenLast2 P o2 (thenLast2 P o3 Q))) (fun a' w' ⟨k, hk⟩ h => by rw [hk]; exact h k) _ _ a w.drew ⟨1, rfl⟩ h1
  have h3 := any_last2 q1 _ _ a w.drew (by simp) (closed_none2 _) h2
  rw [hlen, rep_push] at h3
  have h4 := any_last2 q2 _ _ a w.drew (by simp [hlen]) (closed_none2 _) h3
  rw [rep_push] at h4
  have h5 := any_last2 q3 _ _ a w.drew (by simp [hlen]) (closed_none2 _) h4
  rw [rep_push] at h5
  have hsz : l.length = n + 1 + 1 + 1 := by
    have := congrArg List.length hl
    simp only [List.length_append, List.length_singleton, hlen] at this
    omega
  rw [hl] at h5
  rw [show l.toArray.size = n + 1 + 1 + 1 by simp [hsz]]
  exact h5
/-- cells that were laid anew, room behind them -/
theorem owns_fresh {w : World} {base n c size : Nat} {e : TypeId} (xs : List Value) (z : Array Value) (hl : xs.length = n * size) (hz : z.size = size) (hn : n ≤ c) (hc : c ≤ maxLen) (hb : base ≤ w.heap.size) : (w.alloc (.cells (xs.toArray ++ Builtin.zeroCells z (c - n)) e)).ownsRow base e size (.slice (some ⟨w.heap.size, 0, none⟩) n c) n xs := by
  have h1 : (xs.toArray ++ Builtin.zeroCells z (c - n)).size = c * size := by
    have h2 : n * size + (c - n) * size = c * size := by rw [← Nat.add_mul, Nat.add_sub_cancel' hn]
    rw [Array.size_append, size_zeroCells, List.size_toArray, hl, hz, h2]
  have h3 : (xs.toArray ++ Builtin.zeroCells z (c - n)).toList.take (n * size) = xs := by
    rw [Array.toList_append, ← hl]
    exact List.take_left
  exact ⟨hl, .inr ⟨w.heap.size, c, _, rfl, hb, Blk.new w _ e, hn, hc, h1, h3⟩⟩
/-- from 256 on a list grows by a quarter at most -/
theorem quarter (n : Nat) : 4 * Builtin.nextslicecap (n + 1) n ≤ 5 * (n + 1) + 1024 := by
  rcases Nat.eq_zero_or_pos n with rfl | h0
  · rw [nextslicecap_zero (by omega)]; omega
  · by_cases h : n < 256
    · have := nextslicecap_succ h0
      omega
    · unfold Builtin.nextslicecap
      simp only [growBy_four]
      repeat' split
      all_goals omega
/-- append of one element to a row of the call's own: its bytes may be more than the kit's law has, up to four fifths of all -/
theorem run_append_one {P : Program} (w : World) (t ty : TypeId)
    (base : Nat) (e : TypeId) (i : TypeInfo) (z : Value) (size bytes : Nat) (ht : P.underlying t = some (.slice e)) (hi : P.info? e = some i) (hz : i.zero = some z)
    (hsize : i.size = size) (hby : i.bytes = bytes) (hzs : z.cells.size = size) (hsz : 0 < size)
    (v : Value) (n : Nat) (xs : List Value) (hown : w.ownsRow base e size v n xs)
    (ad : Addr) (c : Nat) (news : List Value) (hl : news.length = size) (hnews : ∀ j u, news[j]? = some u → w.cell? (ad.add j) = some u) (h1 : ∀ u ∈ news, u.oneCell' = true)
    (hbytes : (n + 1) * (bytes * 5) + 1024 * bytes ≤ 1125899906842624) (hb0 : 1 ≤ bytes) (hbase : base ≤ w.heap.size) :
    ∃ v' w', (Builtin.append_ #[t, t] ty #[v, .slice (some ad) 1 c]).run P w = .ok v' w' ∧ w'.ownsRow base e size v' (n + 1) (xs ++ news) ∧ w.grownBy w' v.ownBlock := by
  have hnb : n + 1 ≤ 1125899906842624 := by
    have : (n + 1) * 1 ≤ (n + 1) * (bytes * 5) := Nat.mul_le_mul_left _ (by omega)
    omega
  have h63 : n + 1 ≤ maxLen := by unfold maxLen; omega
  have hl1 : news.length = 1 * size := by rw [hl, Nat.one_mul]
  by_cases hfull : ∃ g, v = .slice (some ⟨g, 0, none⟩) n n
  · obtain ⟨g, rfl⟩ := hfull
    have hq : Builtin.nextslicecap (n + 1) n * i.bytes ≤ 281474976710656 := by
      have h2 : 4 * Builtin.nextslicecap (n + 1) n * bytes ≤ (5 * (n + 1) + 1024) * bytes := Nat.mul_le_mul_right _ (quarter n)
      have h3 : (n + 1) * (bytes * 5) = 5 * (n + 1) * bytes := by rw [Nat.mul_comm bytes 5, ← Nat.mul_assoc, Nat.mul_comm (n + 1) 5]
      rw [Nat.add_mul, Nat.mul_assoc] at h2
      rw [hby]
      omega
    have hr := run_append_grow (P := P) w t ty e i z ht hi hz ⟨g, 0, none⟩ n n xs (by rw [hsize]; exact hown.1) (hown.cells (g := g) rfl) ad 1 c news (by rw [hsize]; exact hl1) hnews (by omega) (by omega) hq
    rw [show xs.toArray ++ news.toArray = (xs ++ news).toArray by simp] at hr
    have hlen : (xs ++ news).length = (n + 1) * size := by rw [List.length_append, hown.1, hl, Nat.succ_mul]
    exact ⟨_, _, hr, owns_fresh (w := w.drew) (xs ++ news) z.cells hlen hzs (grownCap_ge w (n + 1) n e) (grownCap_le_maxLen w (n + 1) n e h63) hbase, grown_below (below_undrew (below_alloc w.drew _)) _⟩
  · rcases hown.2 with ⟨rfl, rfl⟩ | ⟨g, cap, cur, rfl, _, _, hnc, _⟩
    · obtain ⟨v', w', hr, h2, h3, _⟩ := run_append_own (P := P) w base t ty e i z size bytes ht hi hz hsize hby hzs hsz (.slice none 0 0) 0 xs hown ad 1 c news hl1 hnews h1 h63 (by omega) hbase
      exact ⟨v', w', hr, h2, h3⟩
    · have hroom : n + 1 ≤ cap := by
        refine Decidable.byContradiction fun h => hfull ⟨g, ?_⟩
        rw [show cap = n by omega]
      obtain ⟨w', hr, h2, h3⟩ := run_append_fits (P := P) w base t ty e i size ht hi hsize g n cap xs hown ad 1 c news hl1 hnews h1 hroom
      exact ⟨_, w', hr, h2, h3⟩
end Go.Proofs.Ytcjahdgppnmdkaa
