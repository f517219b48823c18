/- Package modes: the table, and what it says: pure. -/
import Derived.Test.YthheekneanhmkaaHpM
import Derived.Test.YthheekneanhmkaaGn4
namespace Go.Proofs.Ythheekneanhmkaa
open Go.RowKit Go.Great

/-- a row of the table: an event, from a mode to a last one, and where it leads -/
structure Rw where
  e : Int
  f : Int
  l : Int
  t : Int
def tabR : List Rw := [⟨0, 3, 11, 12⟩, ⟨1, 3, 11, 12⟩, ⟨2, 3, 11, 12⟩, ⟨3, 10, 11, 14⟩, ⟨3, 13, 13, 14⟩, ⟨4, 3, 7, 8⟩, ⟨5, 3, 7, 8⟩, ⟨6, 3, 3, 4⟩, ⟨6, 8, 8, 9⟩, ⟨6, 9, 9, 10⟩, ⟨6, 12, 12, 13⟩, ⟨7, 2, 2, 1⟩, ⟨8, 1, 1, 2⟩, ⟨9, 2, 2, 3⟩, ⟨10, 3, 3, 4⟩, ⟨10, 5, 11, 4⟩, ⟨11, 4, 4, 5⟩, ⟨11, 6, 11, 5⟩, ⟨12, 4, 5, 6⟩, ⟨12, 7, 11, 6⟩, ⟨13, 2, 2, 7⟩, ⟨13, 4, 6, 7⟩, ⟨14, 3, 7, 8⟩, ⟨14, 11, 11, 8⟩, ⟨15, 3, 10, 11⟩, ⟨16, 0, 0, 1⟩, ⟨16, 14, 14, 1⟩, ⟨17, 1, 1, 0⟩, ⟨17, 14, 14, 0⟩]
theorem tab_len : tabR.length = 29 := rfl
/-- does a row fit? -/
def fitR (r : Rw) (m e : Int) : Bool := decide (r.e = e) && (decide (r.f ≤ m) && decide (m ≤ r.l))
/-- the first row that fits -/
def nxL : List Rw → Int → Int → Int
  | [], m, _ => m
  | r :: l, m, e => if fitR r m e = true then r.t else nxL l m e
/-- the mode behind an event -/
def nx (m e : Int) : Int := nxL tabR m e
/-- is it a mode in the air? -/
def flyB (m : Int) : Bool := decide (3 ≤ m) && decide (m ≤ 13)
def armB (m : Int) : Bool := decide (2 ≤ m) && decide (m ≤ 13)
def rC (r : Rw) : List Value := [.int .i64 r.e, .int .u8 r.f, .int .u8 r.l, .int .u8 r.t]
end Go.Proofs.Ythheekneanhmkaa
