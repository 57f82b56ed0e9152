/-
  An entry's bytes are read as the entry, and bytes that are read are those of what is read: the law, walked. No statement is proved here. No condition.
-/
import Derived.Test.YtackfigkhjdidaaLSame
import Derived.Test.YtackfigkhjdidaaLReadW
namespace Go.Proofs.Ytackfigkhjdidaa
open Go.RowKit

theorem sameL_refl : ∀ (l : List Int), sameL iSame l l = true
  | [] => rfl
  | a :: l => by
    show (iSame a a && sameL iSame l l) = true
    rw [sameL_refl l]
    simp [iSame]
theorem EN.same_refl (x : EN) : x.same x = true := by unfold EN.same; rw [sameL_refl]; simp
theorem one_entN {w : World} {p : Nat} {x : EN} {A : Option Addr} {c : Nat} (hp : w.heap[p]? = some (.cells #[.int .i64 x.term, .int .u8 x.kind, .string x.data, .slice A x.list.length c] 50 (0, 0))) (h : inR.N w Any (.slice A x.list.length c) x.list) : EntN w Any (.slice (some ⟨p, 0, none⟩) 1 1) [x] := by
  refine ⟨[⟨x.term, x.kind, x.data, A, x.list.length, c⟩], Rec.one_row (R := entR) (a := ⟨x.term, x.kind, x.data, A, x.list.length, c⟩) hp trivial, rfl, fun i r e hr he => ?_⟩
  cases i with
  | zero =>
    have hr := Option.some.inj hr
    have he := Option.some.inj he
    subst hr he
    exact ⟨rfl, rfl, rfl, rfl, h⟩
  | succ i => simp at hr
end Go.Proofs.Ytackfigkhjdidaa
