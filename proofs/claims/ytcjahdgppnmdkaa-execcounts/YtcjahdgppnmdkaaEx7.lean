/- Package exec: what waits at a tick; the next moment of a job; a queue's copy. -/
import Derived.Test.YtcjahdgppnmdkaaEx6
import Derived.Deep.DeepCutAuto
set_option maxRecDepth 100000
namespace Go.Proofs.Ytcjahdgppnmdkaa
open Go.RowKit Go.Great

/-- a job's moment behind this one, where an int holds it -/
def nx (t : Tu) : Option Tu := if t.tk + t.pe ≤ 9223372036854775807 then some ⟨t.tk + t.pe, t.rk, t.nu, t.pe⟩ else none
theorem nx_ok {t u : Tu} (h : TOk t) (e : nx t = some u) : TOk u ∧ t.tk < u.tk := by
  unfold nx at e
  split at e
  · next hl =>
    injection e with e
    subst e
    obtain ⟨h0, h1, h2, h3, h4, h5, h6, h7⟩ := h
    exact ⟨⟨by show 0 ≤ t.tk + t.pe; omega, hl, h2, h3, h4, h5, h6, h7⟩, by show t.tk < t.tk + t.pe; omega⟩
  · cases e
theorem ky_lt {a b : Tu} (ha : TOk a) (hb : TOk b) (h : a.tk < b.tk) : ky a < ky b := by
  obtain ⟨_, _, a3, a4, a5, a6, _, _⟩ := ha
  obtain ⟨_, _, b3, b4, b5, b6, _, _⟩ := hb
  unfold ky
  omega
theorem HQ.perm {w : World} {b Q o : Nat} {pre : List Value} {ty : TypeId} {s t : List Tu} (h : HQ w b Q o pre ty s) (hp : s.Perm t) : HQ w b Q o pre ty t := by
  obtain ⟨a, cap, l, h1, h2, h3⟩ := h
  exact ⟨a, cap, l, h1, h2.trans hp, h3⟩
theorem HQ.ok {w : World} {b Q o : Nat} {pre : List Value} {ty : TypeId} {s : List Tu} (h : HQ w b Q o pre ty s) : ∀ t ∈ s, TOk t := by
  obtain ⟨a, cap, l, h1, h2, h3⟩ := h
  exact fun t ht => h1.ok t (h2.symm.subset ht)
theorem HQ.after {w w' : World} {b Q o : Nat} {pre : List Value} {ty : TypeId} {s : List Tu} (h : HQ w b Q o pre ty s) (hb : Below w.heap.size w w') : HQ w' b Q o pre ty s := by
  obtain ⟨a, cap, l, h1, h2, h3⟩ := h
  exact ⟨a, cap, l, h1.after hb, h2, h3⟩
/-- which one is ahead -/
theorem head_is {l s : List Tu} {x : Tu} (hp : l.Perm (x :: s)) (hh : Hp l l.length) (hx : ∀ y ∈ s, ky x < ky y) : te l 0 = x := by
  have hlen : 0 < l.length := by rw [hp.length_eq]; simp
  have hf := hh.first hp hlen
  have h1 := hf.2 x (by simp)
  rcases List.mem_cons.1 hf.1 with e | e
  · exact e
  · have h2 := hx _ e
    unfold hg at h1
    omega
set_option maxHeartbeats 1000000 in
theorem holds_yes (w : World) (b Q o : Nat) (pre : List Value) (ty : TypeId) (a : Option Addr) (cap : Nat) (l : List Tu) (T : Int) (h : Qu w b Q o pre ty a cap l) (h0 : 0 < l.length) (hT : (te l 0).tk = T) : Calls Try.prog 84 #[slQ a l.length cap, .int .i64 T] w fun e w' => e = .returned (.bool true) ∧ w' = w := by
  obtain ⟨g, cur, rfl, _, _, _, _, _⟩ := h.row h0
  obtain ⟨c0, _⟩ := h.at 0 h0
  rw [hT, Nat.zero_mul] at c0
  have hcp := h.cap_in
  generalize l.length = n at *
  clear h hT
  go_enter Try.func84, Try.ntmps84
  go_wp2_with fail
  go_ret
  exact ⟨rfl, rfl⟩
set_option maxHeartbeats 1000000 in
theorem holds_no (w : World) (b Q o : Nat) (pre : List Value) (ty : TypeId) (a : Option Addr) (cap : Nat) (l : List Tu) (T : Int) (h : Qu w b Q o pre ty a cap l) (hT : ∀ t ∈ l, t.tk ≠ T) : Calls Try.prog 84 #[slQ a l.length cap, .int .i64 T] w fun e w' => e = .returned (.bool false) ∧ w' = w := by
  by_cases h0 : 0 < l.length
  · obtain ⟨g, cur, rfl, _, _, _, _, _⟩ := h.row h0
    obtain ⟨c0, _⟩ := h.at 0 h0
    rw [Nat.zero_mul] at c0
    have hne : ((te l 0).tk == T) = false := by simpa using hT _ (te_mem h0)
    have hcp := h.cap_in
    generalize (te l 0).tk = x at *
    generalize l.length = n at *
    clear h hT
    go_enter Try.func84, Try.ntmps84
    go_wp2_with fail
    go_ret
    exact ⟨rfl, rfl⟩
  · have e0 : l.length = 0 := by omega
    rw [e0]
    clear h hT h0 e0
    go_enter Try.func84, Try.ntmps84
    go_wp2_with fail
    go_ret
    exact ⟨rfl, rfl⟩
set_option maxHeartbeats 1000000 in
theorem recurs_any (x0 x1 x2 x3 : Int) (w : World) (h0 : 1 ≤ x3) (h1 : x3 ≤ 9223372036854775807) : Calls Try.prog 87 #[.agg #[.int .i64 x0, .int .i64 x1, .int .i64 x2, .int .i64 x3]] w fun e w' => e = .returned (.bool (decide (x0 + x3 ≤ 9223372036854775807))) ∧ Below w.heap.size w w' := by
  have e : decide (x0 + x3 ≤ 9223372036854775807) = decide (x0 ≤ 9223372036854775807 - x3) := decide_eq_decide.2 ⟨fun h => by omega, fun h => by omega⟩
  rw [e]
  clear e
  go_enter Try.func87, Try.ntmps87
  go_wp2_with fail
  go_ret
  exact ⟨rfl, below_alloc _ _⟩
set_option maxHeartbeats 1000000 in
theorem next_any (x0 x1 x2 x3 : Int) (w : World) (h0 : 0 ≤ x0) (h1 : 1 ≤ x3) (h2 : x0 + x3 ≤ 9223372036854775807) : Calls Try.prog 89 #[.agg #[.int .i64 x0, .int .i64 x1, .int .i64 x2, .int .i64 x3]] w fun e w' => e = .returned (.agg #[.int .i64 (x0 + x3), .int .i64 x1, .int .i64 x2, .int .i64 x3]) ∧ Below w.heap.size w w' := by
  go_enter Try.func89, Try.ntmps89
  go_wp2_with fail
  exact bodyPost_ret (res_back (p := 2) (by kernel_rfl) Try.underlying148 (cs := #[.int .i64 (x0 + x3), .int .i64 x1, .int .i64 x2, .int .i64 x3]) (by kernel_rfl) _ _ (w.heap.size + 1) rfl (by have := Blk.new (w.alloc (.cells #[.int .i64 (x0 + x3), .int .i64 x1, .int .i64 x2, .int .i64 x3] 148)) #[.int .i64 (x0 + x3), .int .i64 x1, .int .i64 x2, .int .i64 x3] 148; rw [size_alloc] at this; exact this)) rfl ⟨rfl, b2 _ _ _⟩
theorem eql_nil (g : Addr) (l c : Nat) (w : World) : (binOp .eql 118 (.slice (some g) l c) (.slice none 0 0)).run Try.prog w = .ok (.bool false) w := by
  kernel_rfl
set_option maxHeartbeats 2000000 in
theorem clone_any (w : World) (b g n cap : Nat) (l : List Tu) (hO : w.ownsRow b 148 4 (slQ (some ⟨g, 0, none⟩) n cap) n (tusC l)) (hn : n ≤ 64) : Calls Try.prog 85 #[slQ (some ⟨g, 0, none⟩) n cap] w fun e w' => ∃ a2 cap2, e = .returned (slQ a2 n cap2) ∧ w'.ownsRow w.heap.size 148 4 (slQ a2 n cap2) n (tusC l) ∧ Below w.heap.size w w' := by
  obtain ⟨i0, hi, hz0, hz1, hz2⟩ := info_parts info_tu
  have EQ := eql_nil ⟨g, 0, none⟩ n cap
  have HN : Hid (∀ j u, (tusC l)[j]? = some u → (w.alloc (.cells #[] 148)).cell? ((⟨g, 0, none⟩ : Addr).add j) = some u) := hide (fun j u hj => by
    have h1 := World.ownsRow.kept hO (grown_below (below_alloc w (.cells #[] 148)) none) (.inr (by simp [Value.ownBlock]))
    exact World.ownsRow.cells h1 (g := g) rfl j u hj)
  have HL : Hid ((tusC l).length = n * 4) := hide hO.1
  have HO : Hid ((w.alloc (.cells #[] 148)).ownsRow w.heap.size 148 4 (.slice (some ⟨w.heap.size, 0, none⟩) 0 0) 0 []) := hide ⟨rfl, .inr ⟨w.heap.size, 0, #[], rfl, Nat.le_refl _, heap_alloc_new _ _, Nat.le_refl _, by unfold maxLen; omega, rfl, rfl⟩⟩
  clear hO
  go_enter Try.func85, Try.ntmps85
  go_wp2_with (at_builtin; refine wpList_append_own _ rfl (.tmp 5) (.tmp 6) 118 rfl w.heap.size 148 i0 _ 4 32 Try.underlying118 hi hz0 hz1 hz2 rfl (by decide) _ _ _ rfl HO.out ⟨g, 0, none⟩ n cap (tusC l) rfl ?c0 ?c1 ?c2 ?c3 ?c4 ?c5 ?_)
  case c0 => exact HL.out
  case c1 => exact HN.out
  case c2 => exact tusC_one l
  case c3 => unfold maxLen; omega
  case c4 => omega
  case c5 => rw [size_alloc]; omega
  intro v' w5 hown5 hgrow5 _
  have hown5 : w5.ownsRow w.heap.size 148 4 v' n (tusC l) := hown5
  obtain ⟨a2, cap2, rfl⟩ := own_shape hown5
  have HR5 := hide hown5
  have HB5 : Hid (Below w.heap.size w w5) := hide ((below_alloc w _).grown hgrow5 (by rw [size_alloc]; omega) (fun j e => (HO.out.lt j e).1))
  clear hown5 hgrow5 HO hi hz0 hz1 hz2 EQ
  go_wp2_with fail
  go_ret
  exact ⟨a2, cap2, rfl, HR5.out, HB5.out⟩
end Go.Proofs.Ytcjahdgppnmdkaa
