/- A mission that only jumps ahead: how many steps it takes: pure. -/
import Derived.Test.YtnekjfidobglmaaMi7
namespace Go.Proofs.Ytnekjfidobglmaa
open Go.RowKit Go.Great Go.Maps

def cst (x : It) : Int := 1 + (if (x.k.toNat : Int) = 3 then x.a else 0)
def tl : List It → Int
  | [] => 0
  | x :: r => cst x + tl r
theorem tl_app (L M : List It) : tl (L ++ M) = tl L + tl M := by
  induction L with
  | nil => simp [tl]
  | cons x r ih => rw [List.cons_append, tl, tl, ih]; omega
theorem tl_split (L : List It) (i : Nat) : tl (L.take i) + tl (L.drop i) = tl L := by rw [← tl_app, List.take_append_drop]
theorem tl_snoc {L : List It} {i : Nat} {x : It} (h : L[i]? = some x) : tl (L.take (i + 1)) = tl (L.take i) + cst x := by
  obtain ⟨hlt, e⟩ := List.getElem?_eq_some_iff.1 h
  rw [List.take_succ_eq_append_getElem hlt, tl_app, e]
  simp [tl]
/-- items whose loiters are not below 0 -/
def Cs (L : List It) : Prop := ∀ x ∈ L, 0 ≤ cst x - 1 ∧ cst x ≤ 1000001
theorem cs_of {L : List It} (h : chk L = 0) : Cs L := by
  intro x hx
  have h1 := (one_ok ((chk_ok h).2 x hx)).1
  unfold cst
  split
  · next e =>
    rw [e] at h1
    have := okK_loiter h1
    omega
  · omega
theorem tl_pos : ∀ (L : List It), Cs L → 0 ≤ tl L
  | [], _ => by simp [tl]
  | x :: r, h => by
    have h1 := h x (List.mem_cons_self ..)
    have h2 := tl_pos r (fun y hy => h y (List.mem_cons_of_mem _ hy))
    unfold tl
    omega
theorem tl_le : ∀ (L : List It), Cs L → tl L ≤ 1000001 * (L.length : Int)
  | [], _ => by simp [tl]
  | x :: r, h => by
    have h1 := h x (List.mem_cons_self ..)
    have h2 := tl_le r (fun y hy => h y (List.mem_cons_of_mem _ hy))
    unfold tl
    rw [List.length_cons]
    omega
theorem Cs.drop {L : List It} (h : Cs L) (i : Nat) : Cs (L.drop i) := fun x hx => h x (List.mem_of_mem_drop hx)
theorem Cs.take {L : List It} (h : Cs L) (i : Nat) : Cs (L.take i) := fun x hx => h x (List.mem_of_mem_take hx)
theorem tl_drop_le {L : List It} (h : Cs L) {a b : Nat} (hab : a ≤ b) : tl (L.drop b) ≤ tl (L.drop a) := by
  have h1 := tl_split (L.drop a) (b - a)
  rw [List.drop_drop, show a + (b - a) = b by omega] at h1
  have := tl_pos _ ((h.drop a).take (b - a))
  omega
theorem tl_here {L : List It} {i : Nat} {x : It} (h : L[i]? = some x) : tl (L.drop i) = cst x + tl (L.drop (i + 1)) := by
  rw [drop_cons h]
  rfl
/-- no jump leads back -/
def Fwd (L : List It) : Prop := ∀ (i : Nat) (x : It), L[i]? = some x → (x.k.toNat : Int) = 4 → (i : Int) < x.a
/-- behind k steps -/
structure Ord (L : List It) (r : Rn) (k : Int) : Prop where
  ok : ROk r
  i : r.L = L
  w : r.l = 0 ∨ ∃ x : It, L[r.p]? = some x ∧ (x.k.toNat : Int) = 3 ∧ r.l < x.a
  t : k + (tl (L.drop r.p) - r.l) ≤ tl L
theorem Ord.low {L : List It} {r : Rn} {k : Int} (h : Ord L r k) (hC : Cs L) : 0 ≤ tl (L.drop r.p) - r.l := by
  rcases h.w with e | ⟨x, hx, hk, hl⟩
  · have := tl_pos _ (hC.drop r.p)
    omega
  · have h1 := tl_here hx
    have h2 := tl_pos _ (hC.drop (r.p + 1))
    have h3 : cst x = 1 + x.a := by unfold cst; rw [if_pos hk]
    omega
theorem Ord.step {L : List It} {r : Rn} {k : Int} (h : Ord L r k) (hC : Cs L) (hF : Fwd L) (x : It) (hx : L[r.p]? = some x) (h6 : (x.k.toNat : Int) ≠ 6) (h7 : (x.k.toNat : Int) ≠ 7) : Ord L (stp r true) (k + 1) ∧ r.p ≤ (stp r true).p := by
  have hok := h.ok.step true
  have hit := h.ok.item (x := x) (by rw [h.i]; exact hx)
  have hl := h.ok.l
  have ht := h.t
  have hT := tl_here hx
  have hcx := hC x (List.mem_of_getElem? hx)
  have hF := hF _ x hx
  have hw : (x.k.toNat : Int) = 3 ∨ r.l = 0 := by
    rcases h.w with e | ⟨y, hy, hk, _⟩
    · exact .inr e
    · rw [hx] at hy
      injection hy with hy
      subst hy
      exact .inl hk
  have hw3 : (x.k.toNat : Int) = 3 → r.l = 0 ∨ r.l < x.a := by
    intro e
    rcases h.w with e | ⟨y, hy, hk, hl⟩
    · exact .inl e
    · rw [hx] at hy
      injection hy with hy
      subst hy
      exact .inr hl
  have hk17 : (x.k.toNat : Int) = 1 ∨ (x.k.toNat : Int) = 2 ∨ (x.k.toNat : Int) = 3 ∨ (x.k.toNat : Int) = 4 ∨ (x.k.toNat : Int) = 5 := by
    have h1 := hit.1
    unfold okK at h1
    by_cases k1 : (x.k.toNat : Int) = 1
    · exact .inl k1
    by_cases k2 : (x.k.toNat : Int) = 2
    · exact .inr (.inl k2)
    by_cases k3 : (x.k.toNat : Int) = 3
    · exact .inr (.inr (.inl k3))
    by_cases k4 : (x.k.toNat : Int) = 4
    · exact .inr (.inr (.inr (.inl k4)))
    by_cases k5 : (x.k.toNat : Int) = 5
    · exact .inr (.inr (.inr (.inr k5)))
    rw [if_neg k1, if_neg k2, if_neg k3, if_neg k4, if_neg k5, if_neg (by omega)] at h1
    cases h1
  have hc3 : (x.k.toNat : Int) = 3 → cst x = 1 + x.a := fun e => by unfold cst; rw [if_pos e]
  have hcn : (x.k.toNat : Int) ≠ 3 → cst x = 1 := fun e => by unfold cst; rw [if_neg e]; omega
  have ST : stp r true = (if (x.k.toNat : Int) = 1 ∨ (x.k.toNat : Int) = 2 then (if true = true then { r with p := r.p + 1 } else r)
    else if (x.k.toNat : Int) = 3 then (if x.a ≤ r.l + 1 then { r with l := 0, p := r.p + 1 } else { r with l := r.l + 1 })
    else if (x.k.toNat : Int) = 4 then (if r.J r.p < x.b then { r with J := upJ r.J r.p (r.J r.p + 1), p := x.a.toNat } else { r with J := upJ r.J r.p 0, p := r.p + 1 })
    else if (x.k.toNat : Int) = 5 then { r with s := x.a, p := r.p + 1 }
    else r) := by unfold stp; rw [h.i, hx]
  rw [ST] at hok ⊢
  have hL := h.i
  rcases hk17 with e | e | e | e | e
  · rw [if_pos (.inl e), if_pos rfl] at hok ⊢
    have := hcn (by omega)
    have : r.l = 0 := by rcases hw with q | q <;> omega
    exact ⟨⟨hok, hL, .inl this, by simp only; omega⟩, by simp only; omega⟩
  · rw [if_pos (.inr e), if_pos rfl] at hok ⊢
    have := hcn (by omega)
    have : r.l = 0 := by rcases hw with q | q <;> omega
    exact ⟨⟨hok, hL, .inl this, by simp only; omega⟩, by simp only; omega⟩
  · rw [if_neg (by omega), if_pos e] at hok ⊢
    have h3 := hc3 e
    have h4 := hw3 e
    by_cases ha : x.a ≤ r.l + 1
    · rw [if_pos ha] at hok ⊢
      exact ⟨⟨hok, hL, .inl rfl, by simp only; omega⟩, by simp only; omega⟩
    · rw [if_neg ha] at hok ⊢
      exact ⟨⟨hok, hL, .inr ⟨x, hx, e, by simp only; omega⟩, by simp only; omega⟩, by simp only; omega⟩
  · rw [if_neg (by omega), if_neg (by omega), if_pos e] at hok ⊢
    have h3 := hcn (by omega)
    have h0 : r.l = 0 := by rcases hw with q | q <;> omega
    have hj := hF e
    have hlt := hit.2 e
    by_cases ha : r.J r.p < x.b
    · rw [if_pos ha] at hok ⊢
      have hd := tl_drop_le hC (a := r.p + 1) (b := x.a.toNat) (by omega)
      exact ⟨⟨hok, hL, .inl h0, by simp only; omega⟩, by simp only; omega⟩
    · rw [if_neg ha] at hok ⊢
      exact ⟨⟨hok, hL, .inl h0, by simp only; omega⟩, by simp only; omega⟩
  · rw [if_neg (by omega), if_neg (by omega), if_neg (by omega), if_pos e] at hok ⊢
    have h3 := hcn (by omega)
    have h0 : r.l = 0 := by rcases hw with q | q <;> omega
    exact ⟨⟨hok, hL, .inl h0, by simp only; omega⟩, by simp only; omega⟩
/-- at a landing nothing happens -/
theorem stp_land {r : Rn} {x : It} (hx : r.L[r.p]? = some x) (h : (x.k.toNat : Int) = 6 ∨ (x.k.toNat : Int) = 7) (arr : Bool) : stp r arr = r := by
  unfold stp
  rw [hx]
  simp only
  rw [if_neg (by omega), if_neg (by omega), if_neg (by omega), if_neg (by omega)]
theorem goal_land {r : Rn} {x : It} (hx : r.L[r.p]? = some x) (h : (x.k.toNat : Int) = 6 ∨ (x.k.toNat : Int) = 7) : goalC r = gC x.k.toNat 0 0 0 r.s := by
  unfold goalC
  rw [hx]
  simp only
  rw [if_neg (by omega), if_neg (by omega)]
end Go.Proofs.Ytnekjfidobglmaa
