/- Replies, where nothing is asked of them. -/
import Derived.Test.YtlhloahogfnijaaBytes
namespace Go.Proofs.Ytlhloahogfnijaa
open Go.RowKit

/-- A reply. -/
structure Rp where
  e : Int
  n : Int
  K : Int
  m : Int
  s : ByteArray
/-- Its numbers are some. -/
structure Rp.In (r : Rp) : Prop where
  e0 : -9223372036854775808 ≤ r.e
  e1 : r.e ≤ 9223372036854775807
  n0 : -9223372036854775808 ≤ r.n
  n1 : r.n ≤ 9223372036854775807
  K0 : -9223372036854775808 ≤ r.K
  K1 : r.K ≤ 9223372036854775807
  m0 : -9223372036854775808 ≤ r.m
  m1 : r.m ≤ 9223372036854775807
def wi (a n : Int) : Bool := decide (a ≤ n) && decide (n ≤ 1099511627776)
def repB (_ : Rp) : Bool := true
def Rp.zero : Rp := ⟨0, 0, 0, 0, ⟨#[]⟩⟩
end Go.Proofs.Ytlhloahogfnijaa
