/-
  The law of entries: what its calls tell, in one form. No statement is proved here. No condition.
-/
import Derived.Test.YtackfigkhjdidaaLReadDW
import Derived.Test.YtackfigkhjdidaaLWriteD
import Derived.Test.YtackfigkhjdidaaLTwinD
import Derived.Test.YtackfigkhjdidaaLBack
namespace Go.Proofs.Ytackfigkhjdidaa
open Go.RowKit

def wBy (x : EN) : List UInt8 := if x.may = true then x.bs else []
def wEr (x : EN) : Int := if x.may = true then 0 else 1
def rEn (b : List UInt8) : EN := if readOk b = true then rdE (some b) else zE
def rEr (b : List UInt8) : Int := if readOk b = true then 0 else 4
theorem own_sl {w : World} {base : Nat} {v : Value} {l : List UInt8} (h : w.ownsRow base 5 1 v l.length (BS l)) : ∃ A c, v = .slice A l.length c := own_slice h
theorem write_uni (x : EN) (v : Value) (w : World) (h : inR.N w Any v x.list) :
    Calls Try.prog 28 #[x.agg v] w fun e w' => ∃ A c, e = .returned (.tuple #[.slice A (wBy x).length c, .int .i64 (wEr x)]) ∧ Rd w' w'.heap.size (.slice A (wBy x).length c) (wBy x) ∧ Below w.heap.size w w' :=
  (write_any x v w h).mono fun e w' ⟨hc, hb⟩ => by
    rcases hc with ⟨hm, rfl⟩ | ⟨hm, u, rfl, hu⟩
    · have h1 : wBy x = [] := by unfold wBy; rw [hm]; rfl
      have h2 : wEr x = 1 := by unfold wEr; rw [hm]; rfl
      rw [h1, h2]
      exact ⟨none, 0, rfl, Rd.nil _ _, hb⟩
    · have h1 : wBy x = x.bs := by unfold wBy; rw [hm]; rfl
      have h2 : wEr x = 0 := by unfold wEr; rw [hm]; rfl
      rw [h1, h2]
      obtain ⟨A, c, rfl⟩ := own_sl hu
      exact ⟨A, c, rfl, Rd.own hu, hb⟩
theorem writeD_uni (x : EN) (v : Value) (w : World) (h : inR.N w Any v x.list) :
    Calls Try.prog 27 #[x.agg v] w fun e w' => ∃ A c, e = .returned (.tuple #[.slice A (wBy x).length c, .int .i64 (wEr x)]) ∧ Rd w' w'.heap.size (.slice A (wBy x).length c) (wBy x) ∧ Below w.heap.size w w' :=
  (writeD_any x v w h).mono fun e w' ⟨hc, hb⟩ => by
    rcases hc with ⟨hm, rfl⟩ | ⟨hm, u, rfl, hu⟩
    · have h1 : wBy x = [] := by unfold wBy; rw [hm]; rfl
      have h2 : wEr x = 1 := by unfold wEr; rw [hm]; rfl
      rw [h1, h2]
      exact ⟨none, 0, rfl, Rd.nil _ _, hb⟩
    · have h1 : wBy x = x.bs := by unfold wBy; rw [hm]; rfl
      have h2 : wEr x = 0 := by unfold wEr; rw [hm]; rfl
      rw [h1, h2]
      obtain ⟨A, c, rfl⟩ := own_sl hu
      exact ⟨A, c, rfl, Rd.own hu, hb⟩
theorem ReadPost.uni {w w' : World} {b : List UInt8} {e : Ending} (h : ReadPost w b e w') : ∃ A c, e = .returned (.tuple #[(rEn b).agg (.slice A (rEn b).list.length c), .int .i64 (rEr b)]) ∧ inR.Own w' w.heap.size 3 (.slice A (rEn b).list.length c) (rEn b).list ∧ Below w.heap.size w w' := by
  obtain ⟨hc, hb⟩ := h
  rcases hc with ⟨hm, A, c, rfl, ho⟩ | ⟨hm, rfl⟩
  · have h1 : rEn b = rdE (some b) := by unfold rEn; rw [hm]; rfl
    have h2 : rEr b = 0 := by unfold rEr; rw [hm]; rfl
    rw [h1, h2]
    exact ⟨A, c, rfl, ho, hb⟩
  · have h1 : rEn b = zE := by unfold rEn; rw [hm]; rfl
    have h2 : rEr b = 4 := by unfold rEr; rw [hm]; rfl
    rw [h1, h2]
    exact ⟨none, 0, rfl, Rec.Own.none _ _ _ _, hb⟩
/-- bytes appended to a new literal -/
theorem lit_bytes' {w : World} {v : Value} {l : List UInt8} (hr : Rd w w.heap.size v l) (hl : l.length ≤ 1000000) : ∃ A c w', (Builtin.append_ #[23, 23] 23 #[.slice (some ⟨w.heap.size, 0, none⟩) 0 0, v]).run Try.prog (w.alloc (.cells #[] 5)) = .ok (.slice A l.length c) w' ∧ Rd w' w'.heap.size (.slice A l.length c) l ∧ Below w.heap.size w w' := by
  obtain ⟨iu, hiu, z0, z1, z2⟩ := info_parts info_u8
  have hb1 : Below w.heap.size w (w.alloc (.cells #[] 5)) := (Below.refl _ _).alloc (Nat.le_refl _) _
  have hown1 : (w.alloc (.cells #[] 5)).ownsRow w.heap.size 5 1 (.slice (some ⟨w.heap.size, 0, none⟩) 0 0) 0 (BS []) := World.ownsRow_lit w #[] 0 (Nat.le_refl _) (by unfold maxLen; omega) rfl
  have hr1 : Rd (w.alloc (.cells #[] 5)) w.heap.size v l := hr.below hb1 (Nat.le_refl _)
  obtain ⟨v', w', hrn, h2, h3⟩ := run_app (P := Try.prog) (w := w.alloc (.cells #[] 5)) w.heap.size 23 23 5 iu Try.underlying23 hiu z0 z1 z2 _ v [] l 0 hown1 w.heap.size hr1 (by simp; omega) hb1.size
  rw [Nat.zero_add, List.nil_append] at h2
  obtain ⟨A, c, rfl⟩ := own_sl h2
  exact ⟨A, c, w', hrn, Rd.own h2, hb1.grown h3 hb1.size (fun p hp => by have h1 : w.heap.size = p := Option.some.inj hp; omega)⟩
theorem check_flat (x : EN) (A : Option Addr) (c : Nat) (K : Bool) (w : World) (hk : x.may = K) (h : inR.N w Any (.slice A x.list.length c) x.list) :
    Calls Try.prog 31 #[.agg #[.int .i64 x.term, .int .u8 x.kind, .string x.data, .slice A x.list.length c]] w fun r w' => r = .returned (.bool K) ∧ Below w.heap.size w w' := by
  rw [← hk]
  exact check_any x _ w h
theorem checkD_flat (x : EN) (A : Option Addr) (c : Nat) (K : Bool) (w : World) (hk : x.may = K) (h : inR.N w Any (.slice A x.list.length c) x.list) :
    Calls Try.prog 32 #[.agg #[.int .i64 x.term, .int .u8 x.kind, .string x.data, .slice A x.list.length c]] w fun r w' => r = .returned (.bool K) ∧ Below w.heap.size w w' := by
  rw [← hk]
  exact checkD_any x _ w h
theorem same_flat (x : EN) (A A2 : Option Addr) (c c2 : Nat) (w : World) (h : inR.N w Any (.slice A x.list.length c) x.list) (h2 : inR.N w Any (.slice A2 x.list.length c2) x.list) :
    Calls Try.prog 33 #[.agg #[.int .i64 x.term, .int .u8 x.kind, .string x.data, .slice A x.list.length c], .agg #[.int .i64 x.term, .int .u8 x.kind, .string x.data, .slice A2 x.list.length c2]] w fun e w' => e = .returned (.bool true) ∧ Below w.heap.size w w' := by
  have := same_any x x _ _ w h h2
  rw [EN.same_refl] at this
  exact this
end Go.Proofs.Ytackfigkhjdidaa
