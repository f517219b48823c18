/- Package modes: an event comes to a queue, and leaves it; container/heap's Push and Pop over it. -/
import Derived.Test.YthheekneanhmkaaMo5
import Derived.Laws.AppendOwnNone
namespace Go.Proofs.Ythheekneanhmkaa
open Go.RowKit Go.Great

abbrev evI (x : Int) : Value := .iface 3 (.int .i64 x)
theorem assert_two (x : Int) (u : TypeId) (w : World) : (Instr.typeAssert (evI x) u 3 true).run Try.prog w = .ok (.tuple #[.int .i64 x, .bool true]) w := by kernel_rfl
theorem assert_one (x : Int) (u : TypeId) (w : World) : (Instr.typeAssert (evI x) u 3 false).run Try.prog w = .ok (.int .i64 x) w := by kernel_rfl
theorem own_shape {w : World} {b n : Nat} {v : Value} {xs : List Value} (h : w.ownsRow b 3 1 v (n + 1) xs) : ∃ g cap, v = slQ g (n + 1) cap := by
  rcases h.2 with ⟨_, h0⟩ | ⟨g, cap, _, hv, _⟩
  · cases h0
  · exact ⟨g, cap, hv⟩
set_option maxHeartbeats 2000000 in
theorem pushM_any (w : World) (b Q g cap : Nat) (l : List Int) (x : Int) (h : Qu w b Q g cap l) (hl : l.length ≤ 64) : Calls Try.prog 49 #[qP Q, evI x] w fun e w' => ∃ g2 cap2, QEnd w b Q g2 cap2 (l ++ [x]) (.tuple #[]) e w' := by
  obtain ⟨i0, hi, hz0, hz1, hz2⟩ := info_parts info_int
  have A2 := assert_two x
  have cq : w.cell? ⟨Q, 0, none⟩ = some (slQ g l.length cap) := h.box.cell 0 rfl
  have hbs : b ≤ w.heap.size := Nat.le_trans h.bq (Nat.le_of_lt h.box.lt)
  have HA := hide (h.after (below_alloc w (.cells #[.int .i64 x] 3)))
  have Hbq := hide h.bq
  have Hbg := hide h.bg
  obtain ⟨n, hn⟩ : ∃ n, Hid (l.length = n) := ⟨_, hide rfl⟩
  rw [hn.out] at cq hl
  have HO := hide HA.out.own
  rw [hn.out] at HO
  have HN : Hid (∀ j u, [Value.int .i64 x][j]? = some u → (w.alloc (.cells #[.int .i64 x] 3)).cell? ((⟨w.heap.size, 0, none⟩ : Addr).add j) = some u) := hide (new_cell1 w _ rfl (.int .i64 x) 3)
  clear h
  go_enter Try.func49, Try.ntmps49
  go_wp2_with (at_builtin; refine wpList_append_own _ rfl (.tmp 15) (.tmp 17) 56 rfl b 3 i0 _ 1 8 Try.underlying56 hi hz0 hz1 hz2 rfl (by decide) _ _ _ rfl HO.out ⟨w.heap.size, 0, none⟩ 1 1 [.int .i64 x] rfl rfl ?c1 ?c2 ?c3 ?c4 ?c5 ?_)
  case c1 => exact HN.out
  case c2 => simp [Value.oneCell']
  case c3 => unfold maxLen; omega
  case c4 => omega
  case c5 => rw [size_alloc]; omega
  intro v' w5 hown5 hgrow5 _
  obtain ⟨g2, cap2, rfl⟩ := own_shape hown5
  have HX := hide (blk_grown HO.out HA.out.box (by decide) hgrow5)
  have HB5 : Hid (Below b w w5) := hide (((Below.refl b w).alloc hbs _).grown hgrow5 (by rw [size_alloc]; omega) (fun j e => by cases e; exact Hbg.out))
  have hne : g2 ≠ Q := by
    have := blk_apart hown5 HX.out (by decide)
    intro e; subst e; exact this rfl
  have HR := hide hown5
  clear hown5 hgrow5 hi hz0 hz1 hz2 HO HN A2 cq
  have cq : w5.cell? ⟨Q, 0, none⟩ = some (slQ g l.length cap) := HX.out.cell 0 rfl
  have fq := HX.out.frozen 0
  go_wp2_with fail
  go_end0
  have hlen : (l ++ [x]).length = n + 1 := by rw [List.length_append, hn.out]; rfl
  refine ⟨g2, cap2, rfl, ⟨Hbq.out, ?_, ?_⟩, below_set HB5.out Q 0 _ Hbq.out (by have := HX.out.lt; have := Hbq.out; omega)⟩
  · rw [hlen]; exact HX.out.set 0 _
  · rw [hlen, List.map_append]
    exact ownsRow_setCell_other HR.out (by simp [Value.ownBlock]; exact hne) _
set_option maxHeartbeats 2000000 in
theorem popM_any (w : World) (b Q g cap n : Nat) (l : List Int) (h : Qu w b Q g cap l) (hl : l.length = n + 1) (hn : n ≤ 64) : Calls Try.prog 48 #[qP Q] w (QEnd w b Q g cap (l.take n) (evI (hg l n))) := by
  have cq : w.cell? ⟨Q, 0, none⟩ = some (slQ g l.length cap) := h.box.cell 0 rfl
  have fq := h.box.frozen 0
  have ce := h.at n (by omega)
  have hcp := h.cap_in
  have HS := hide (h.less hl)
  have Hb := hide (below_set (Below.refl b w) Q 0 (slQ g n cap) h.bq (Nat.le_trans h.bq (Nat.le_of_lt h.box.lt)))
  obtain ⟨N, hN⟩ : ∃ N, l.length = N := ⟨_, rfl⟩
  rw [hN] at cq hcp hl
  have e1 : (N : Int) - 1 = (n : Int) := by omega
  have hnc : n ≤ cap := by omega
  generalize hg l n = x at *
  generalize l.take n = m at *
  clear h hN
  go_enter Try.func48, Try.ntmps48
  go_wp2_with fail
  go_ret
  exact ⟨rfl, HS.out, Hb.out⟩
end Go.Proofs.Ythheekneanhmkaa
