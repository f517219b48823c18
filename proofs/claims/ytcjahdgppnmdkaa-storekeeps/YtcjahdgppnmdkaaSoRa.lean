/- The statements' 'raised': boots until one is not cut. -/
import Derived.Test.YtcjahdgppnmdkaaSoD
import Derived.Test.YtcjahdgppnmdkaaSo14
import Derived.Deep.RegionHeld3
set_option maxRecDepth 100000
namespace Go.Proofs.Ytcjahdgppnmdkaa
open Go.RowKit Go.Great

theorem take_at {P : Program} {ops : Array Oper} {Q : Exit → Act → World → Prop} {md : Region.Mode} {S : World → Prop} {i : Nat} {oi : Oper} {v : Value} {d : Option Tmp} {fuel : Nat} {listed : Array Bool} {a : Act} {w : World} (hi : ops[i]? = some oi) (hd : oi.dst = d)
    (hs : Region.noSelect ops = true) (hf : Region.free md ops listed i = true) (hr : (Region.ready md ops listed).contains i = true)
    (hQ : ∀ c a w, Q (.panic c) (a.put d v) w → Q (.panic c) a w) (hy : YieldsIf P ops S oi v a) (hS : S w)
    (h : wpAnyH P md ops Q S fuel (listed.setIfInBounds i true) (a.put d v) w) : wpAnyH P md ops Q S (fuel + 1) listed a w := by
  subst hd
  exact wpAnyH_take hi hs hf hr hQ hy hS h
/-- a cut: Left, Junk -/
abbrev Ct := Int × ByteArray
def ctz : Ct := (0, ⟨#[]⟩)
/-- a slice of cuts, none of them in block R -/
def Cuts (w : World) (v : Value) (cs : List Ct) (R : Nat) : Prop :=
  ∃ a cap, v = .slice a cs.length cap ∧ (∀ i, i < cs.length → (cs.getD i ctz).2.size ≤ 9223372036854775807) ∧ (0 < cs.length → ∃ g o, a = some ⟨g, o, none⟩ ∧ g < w.heap.size ∧ g ≠ R ∧ ∀ i, i < cs.length → w.cell? ⟨g, o + i * 2, none⟩ = some (.int .i64 (cs.getD i ctz).1) ∧ w.cell? ⟨g, o + i * 2 + 1, none⟩ = some (.string (cs.getD i ctz).2))
theorem Kept.cell {R : Nat} {w w' : World} (h : Kept R w w') {g o : Nat} (hg : g < w.heap.size) (hne : g ≠ R) : w'.cell? ⟨g, o, none⟩ = w.cell? ⟨g, o, none⟩ :=
  World.cell?_of_block (a := ⟨g, o, none⟩) (World.grownBy.block h g hg (fun e => hne (by injection e)))
theorem Cuts.kept {w w' : World} {v : Value} {cs : List Ct} {R : Nat} (h : Cuts w v cs R) (hk : Kept R w w') : Cuts w' v cs R := by
  obtain ⟨a, cap, e, hz, hc⟩ := h
  refine ⟨a, cap, e, hz, fun h0 => ?_⟩
  obtain ⟨g, o, e2, hg, hne, hcc⟩ := hc h0
  have hs := hk.size
  exact ⟨g, o, e2, by omega, hne, fun i hi => by rw [hk.cell hg hne, hk.cell hg hne]; exact hcc i hi⟩
def Upx (C : List UInt8) (V : Vl) : Prop := ∃ a, Up C a V
/-- what raised answers -/
def RaEnd (n : Nat) (σ : St) (R : Nat) (w : World) (e : Ending) (w' : World) : Prop :=
  ∃ (S : Nat) (τ : St) (s : Sv), e = .returned (.tuple #[fp S, .bool true]) ∧ Fl w' R τ ∧ So w' S (fp R) s.ac s.tu s.en s.k ∧ (∃ V, Live τ.C s V) ∧ (∀ V, Upx σ.C V → Live τ.C s V) ∧ (τ.off = false ∧ τ.ar = false ∧ τ.jk.size ≤ 4096) ∧ w.heap.size ≤ S ∧ S ≠ R ∧ Kept R w w' ∧ (n = 0 → ∃ τ0, bootS (onS σ) = (τ0, some s) ∧ τ.C = τ0.C)
theorem onS_C (σ : St) : (onS σ).C = σ.C := rfl
theorem cutR_on {σ : St} (ho : σ.off = false) (hj : σ.jk.size ≤ 4096) (n : Int) (j : ByteArray) : (cutR σ n j).1.C = σ.C ∧ (cutR σ n j).1.off = false ∧ (cutR σ n j).1.jk.size ≤ 4096 ∧ (n < 0 → (cutR σ n j).2 = 1) ∧ (0 ≤ n → (cutR σ n j).2 = 0) := by
  unfold cutR
  rw [ho]
  simp only [Bool.false_eq_true, if_false]
  by_cases h : n < 0
  · rw [if_pos h]; exact ⟨rfl, ho, hj, fun _ => rfl, fun h2 => by omega⟩
  · rw [if_neg h]; exact ⟨rfl, rfl, jkS_size j, fun h2 => absurd h2 h, fun _ => rfl⟩
/-- behind the boot -/
def BoIn (σ0 : St) (x : St × Option Sv) : Prop := (∀ τ s, x = (τ, some s) → (∃ V, Live τ.C s V) ∧ ∀ V, Upx σ0.C V → Live τ.C s V) ∧ (∀ τ, x = (τ, none) → ∀ V, Upx σ0.C V → Upx τ.C V)
theorem boot_in {σ0 σ : St} (hl : σ.C.length = 8192) (ho : σ.off = false) (hU : ∀ V, Upx σ0.C V → Upx σ.C V) : BoIn σ0 (bootS σ) := by
  refine ⟨fun τ s e => ⟨boot_live hl ho τ s e, fun V hV => ?_⟩, fun τ e V hV => ?_⟩
  · obtain ⟨a, ha⟩ := hU V hV
    exact (ha.boot ho).1 τ s e
  · obtain ⟨a, ha⟩ := hU V hV
    exact (ha.boot ho).2 τ e
theorem cuts_none (w : World) (R : Nat) : Cuts w (.slice none 0 0) [] R := ⟨none, 0, rfl, fun i h => absurd h (by simp), fun h => absurd h (by simp)⟩
end Go.Proofs.Ytcjahdgppnmdkaa
