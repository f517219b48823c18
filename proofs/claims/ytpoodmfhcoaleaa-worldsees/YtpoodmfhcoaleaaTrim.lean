/- Leaving out noughts at the high end, and comparing digits: walks. -/
import Derived.Test.YtpoodmfhcoaleaaBig
namespace Go.Proofs.Ytpoodmfhcoaleaa
open Go.RowKit

/-- what 'trim' hands back: the first n, behind which all are 0 -/
def Trimmed (w : World) (v : Value) (ds : List Int) : Prop := ∃ n, n ≤ ds.length ∧ Row w v (ds.take n) ∧ Top (ds.take n) ∧ ∀ i, n ≤ i → i < ds.length → ds.getD i 0 = 0

theorem trimmed_mk {w : World} {b off cap : Nat} {ds : List Int} (n : Nat) (hn : n ≤ ds.length) (hc : ds.length ≤ cap) (hm : cap ≤ maxLen) (hb : b < w.heap.size)
    (h : ∀ i, i < ds.length → w.cell? ⟨b, off + i, none⟩ = some (.int .i64 (ds.getD i 0))) (hz : ∀ i, n ≤ i → i < ds.length → ds.getD i 0 = 0) (ht : n = 0 ∨ ds.getD (n - 1) 0 ≠ 0) :
    Trimmed w (.slice (some ⟨b, off, none⟩) n cap) ds := by
  refine ⟨n, hn, Row.take n hn hc hm hb h, ?_, hz⟩
  rcases ht with rfl | ht
  · exact .inl (by simp)
  · by_cases h0 : n = 0
    · subst h0; exact .inl (by simp)
    · right
      have hl : (ds.take n).length = n := by simp; omega
      rw [hl]
      simpa [List.getD_eq_getElem?_getD, List.getElem?_take, show n - 1 < n by omega] using ht

set_option maxHeartbeats 1000000 in
theorem trim_any (v : Value) (ds : List Int) (w : World) (h : Row w v ds) (hL : ds.length ≤ 4000000) :
    Calls Try.prog 56 #[v] w fun e w' => w' = w ∧ ∃ v', e = .returned v' ∧ Trimmed w v' ds := by
  obtain ⟨a, cap, rfl, hc, hm, h3⟩ := h
  rcases h3 with ⟨rfl, rfl, rfl⟩ | ⟨b, off, rfl, hb, hcell⟩
  · go_enter Try.func56, Try.ntmps56
    go_wp2
    go_loop [3] (fun x => x = .int .i64 0) (fun _ => 0)
    case atStart => rfl
    case round =>
      subst hrel
      go_wp2
      go_ret
      exact ⟨rfl, _, rfl, 0, Nat.le_refl _, Row.nil w, .inl rfl, fun i _ hi => absurd hi (by simp)⟩
  · have HC := hide hcell
    clear hcell
    unfold maxLen at hm
    go_enter Try.func56, Try.ntmps56
    go_wp2
    go_loop [3] (fun x => ∃ n : Nat, n ≤ ds.length ∧ x = .int .i64 n ∧ Hid (∀ i, n ≤ i → i < ds.length → ds.getD i 0 = 0)) (fun x => (intOf x).toNat)
    case atStart => exact ⟨ds.length, Nat.le_refl _, rfl, fun i h1 h2 => absurd h2 (by omega)⟩
    case round =>
      obtain ⟨n, hn, rfl, HZ⟩ := hrel
      cases n with
      | zero =>
        go_wp2
        go_ret
        exact ⟨rfl, _, rfl, trimmed_mk 0 (by omega) hc (by unfold maxLen; omega) hb HC.out HZ.out (.inl rfl)⟩
      | succ n =>
        have hcl := HC.out n (by omega)
        obtain ⟨d, HD⟩ : ∃ d, Hid (ds.getD n 0 = d) := ⟨_, rfl⟩
        rw [HD.out] at hcl
        cases hd : (d == 0)
        · go_wp2
          go_ret
          exact ⟨rfl, _, rfl, trimmed_mk (n + 1) (by omega) hc (by unfold maxLen; omega) hb HC.out HZ.out (.inr (by rw [show n + 1 - 1 = n from rfl, HD.out]; simpa using hd))⟩
        · go_wp2
          go_round
          case rel =>
            refine ⟨n, by omega, by go_num, fun i h1 h2 => ?_⟩
            by_cases e : i = n
            · subst e; rw [HD.out]; simpa using hd
            · exact HZ.out i (by omega) h2
          case measure => simp [intOf]
end Go.Proofs.Ytpoodmfhcoaleaa
