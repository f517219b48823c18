/- Parameters over lists of numbers: the table, what is sound, what follows from them. -/
import Derived.WalkKit
namespace Go.Proofs.Ythldohfjkjhdcaa

def loL : List Int := [0, 1, 0, 1, 0, 0, 4, 1600, 1600, 2000, 1000, 500, 200, 100, 40, 40, 1, 0, 0, 0, 0, 1, 0, 16]
def hiL : List Int := [16, 200, 16, 200, 16, 4, 32, 64000, 32000, 16000, 120000, 120000, 10000, 10000, 40000, 40000, 40, 1000000000, 1000000, 1000, 1000, 10000, 16384, 3200]
def deL : List Int := [6, 20, 4, 20, 4, 2, 12, 16000, 8000, 8000, 5000, 2000, 1000, 500, 4000, 400, 8, 1000, 100, 1, 2, 500, 4000, 800]
/-- the first k numbers are in their ranges -/
def InR (l : List Int) (k : Nat) : Prop := ∀ i, i < k → loL.getD i 0 ≤ l.getD i 0 ∧ l.getD i 0 ≤ hiL.getD i 0
def inRB (l : List Int) : Bool := (List.range 24).all fun i => decide (loL.getD i 0 ≤ l.getD i 0) && decide (l.getD i 0 ≤ hiL.getD i 0)
theorem inRB_iff (l : List Int) : inRB l = true ↔ InR l 24 := by
  unfold inRB InR
  simp [List.all_eq_true]
def speE (l : List Int) : Int := max (l.getD 2 0) (l.getD 4 0)
def plaE (l : List Int) : Int := max (l.getD 1 0) (l.getD 3 0)
/-- the three rules -/
def Rul (l : List Int) : Prop := l.getD 0 0 + l.getD 6 0 + 2 * speE l + 4 ≤ 64 ∧ 8 * plaE l + 100 ≤ l.getD 12 0 ∧ l.getD 11 0 ≤ l.getD 10 0
def rulB (l : List Int) : Bool := decide (l.getD 0 0 + l.getD 6 0 + 2 * speE l + 4 ≤ 64) && (decide (8 * plaE l + 100 ≤ l.getD 12 0) && decide (l.getD 11 0 ≤ l.getD 10 0))
theorem rulB_iff (l : List Int) : rulB l = true ↔ Rul l := by
  unfold rulB Rul
  simp
/-- what Check answers -/
def chk (l : List Int) : Int := if l.length = 24 then (if inRB l = true then (if rulB l = true then 0 else 80) else 5) else 3
/-- sound parameters -/
structure Sound (l : List Int) : Prop where
  len : l.length = 24
  inr : InR l 24
  rul : Rul l
theorem chk_cases (l : List Int) : (chk l = 3 ∧ l.length ≠ 24) ∨ (chk l = 5 ∧ l.length = 24 ∧ ¬ InR l 24) ∨ (chk l = 80 ∧ l.length = 24 ∧ InR l 24 ∧ ¬ Rul l) ∨ (chk l = 0 ∧ Sound l) := by
  unfold chk
  by_cases h1 : l.length = 24
  · rw [if_pos h1]
    by_cases h2 : inRB l = true
    · rw [if_pos h2]
      by_cases h3 : rulB l = true
      · rw [if_pos h3]; exact .inr (.inr (.inr ⟨rfl, h1, (inRB_iff l).1 h2, (rulB_iff l).1 h3⟩))
      · rw [if_neg h3]; exact .inr (.inr (.inl ⟨rfl, h1, (inRB_iff l).1 h2, fun h => h3 ((rulB_iff l).2 h)⟩))
    · rw [if_neg h2]; exact .inr (.inl ⟨rfl, h1, fun h => h2 ((inRB_iff l).2 h)⟩)
  · rw [if_neg h1]; exact .inl ⟨rfl, h1⟩
theorem sound_of {l : List Int} (h : chk l = 0) : Sound l := by
  rcases chk_cases l with ⟨e, _⟩ | ⟨e, _⟩ | ⟨e, _⟩ | ⟨_, hs⟩
  · omega
  · omega
  · omega
  · exact hs
theorem Sound.chk {l : List Int} (h : Sound l) : chk l = 0 := by
  rcases chk_cases l with ⟨_, e⟩ | ⟨_, _, e⟩ | ⟨_, _, _, e⟩ | ⟨e, _⟩
  · exact absurd h.len e
  · exact absurd h.inr e
  · exact absurd h.rul e
  · exact e
/-- the way of a velocity at a braking -/
def wayI (v b : Int) : Int := v / b * v - b * (v / b) * (v / b + 1) / 2
/-- rounded up -/
def upI (a b : Int) : Int := -((-a) / b)
structure Mar where
  brake : Int
  drift : Int
  jolt : Int
  fast : Int
  lane : Int
  drain : Int
def marL (l : List Int) : Mar :=
  let brake := 64 - l.getD 0 0
  let drift := l.getD 0 0 + speE l + 2
  let jolt := 86 * (l.getD 5 0 + 1)
  let fast := max (max (l.getD 7 0) (l.getD 8 0)) (l.getD 9 0) + 128 + jolt + drift
  ⟨brake, drift, jolt, fast, upI (wayI fast brake) 6400 + 12 * plaE l + 100, l.getD 19 0 + 1824 * l.getD 20 0 / 1024⟩
def landI (m : Mar) (fall h : Int) : Int := m.fast / m.brake + fall / 32 + upI (h * 6400 + wayI m.fast m.brake + 16 * m.fast) (fall - m.drift) + 104
def legI (d v a : Int) : Int := 8 * (v / a) + upI (19200 * d) v + 800
def retI (l : List Int) (h d : Int) : Int :=
  let top := max h (l.getD 10 0) + 1000
  legI top (l.getD 8 0) (l.getD 6 0) + legI d (l.getD 7 0) (l.getD 6 0) + 8 * ((l.getD 8 0 + l.getD 9 0) / l.getD 6 0) + upI (12800 * top) (l.getD 9 0) + 104
def slackI (l : List Int) (c : Int) : Int := upI ((marL l).drift * landI (marL l) (l.getD 9 0) c + (marL l).jolt * 64) 6400 + 2
end Go.Proofs.Ythldohfjkjhdcaa
