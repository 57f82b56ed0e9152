/-
  Two majorities meet, with what each statement asks first. No statement is proved here. No condition.
-/
import Derived.Test.YtblbcoknefgcaaaBMeets
import Derived.Test.YtblbcoknefgcaaaBWorks
namespace Go.Proofs.Ytblbcoknefgcaaa
open Go.RowKit
theorem meets_all (x a b : List Int) (vx va vb : Value) (s : Int) (w : World) (hx : inR.N w Any vx x) (ha : inR.N w Any va a) (hb : inR.N w Any vb b) (hxl : x.length ≤ 17592186044416) (hal : a.length ≤ 17592186044416) (hbl : b.length ≤ 17592186044416) (wa : ∀ v ∈ a, I6 v) (wb : ∀ v ∈ b, I6 v) :
    Calls Try.prog 10 #[vx, .int .i64 s, va, vb] w fun e w' => e = .returned (.bool true) ∧ Below w.heap.size w w' :=
  meets_walk works_any x a b vx va vb s w hx ha hb hxl hal hbl wa wb
end Go.Proofs.Ytblbcoknefgcaaa
