/- Twice a polygon's area. -/
import Derived.Test.YtnenbbkkhnlgbaaGeJ
namespace Go.Proofs.Ytnenbbkkhnlgbaa
open Go.RowKit Go.Shelf

attribute [local go_sem] Oper.semAt_some

def arK (l : List Pt) (m k : Nat) : Int := ptx l k * pty l (nxt m k) - pty l k * ptx l (nxt m k)
def arS (l : List Pt) (m : Nat) (pre : List (Fin m)) : Int := pre.foldl (fun s k => wrap64 (s + arK l m k.1)) 0
theorem arS_snoc (l : List Pt) (m : Nat) (pre : List (Fin m)) (x : Fin m) : arS l m (pre ++ [x]) = wrap64 (arS l m pre + arK l m x.1) := by simp [arS]
/-- what Area2 answers -/
def araI (l : List Pt) : Int := if simE l = 0 then arS l l.length (List.finRange l.length) else 0
theorem pp_bound {x y : Int} (h1 : -536870912 ≤ x) (h2 : x ≤ 536870912) (h3 : -536870912 ≤ y) (h4 : y ≤ 536870912) : -288230376151711744 ≤ x * y ∧ x * y ≤ 288230376151711744 := by
  have := mul_bound (x := x) (y := y) (c := 536870912) (d := 536870912) (by omega) (by omega) (by omega) (by omega)
  omega
end Go.Proofs.Ytnenbbkkhnlgbaa
