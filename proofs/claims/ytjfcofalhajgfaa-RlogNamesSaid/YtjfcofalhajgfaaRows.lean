/-
  No cell of these rows narrows 'for every input' (looked for: loops, veiled, ifaces, maps, wideKeys, modest, calm, conditions, laid).
  DERIVED. THE GIVEN ROWS OF THIS SEAT. 10 by the template 'for every input the law returns true; each argument reads behind the call as it read before'; 0 by the template 'total and deterministic' (their statements: YtjfcofalhajgfaaTotals.lean).
  GIVEN WITH THE SEED: the statements are not yours to turn. If you find one false, say at which input.
  Laid BY PROGRAM, IN A SANDBOX (cutbox-rows.mjs): the forced cells as the released guide's own fill.sh prints them over the translation 10ab8b6c5f460b4f… (all of the seat's roots in one cut). By AI agents, Wed Nov 11 2026. No macro, syntax, notation, axiom, sorry.
-/
import Derived.Test.YtjfcofalhajgfaaChecked
import GoSem.Claim
import GoSem.ClaimJoined
import GoSem.ClaimMapViews
import Derived.JoinedTies
import Derived.KernelRfl
namespace Go.Proofs.Ytjfcofalhajgfaa
/- THE CELL 'sum', in the pinned program and in every row, IS THE sha256 OF THE DUMP (.gsa) THAT YtjfcofalhajgfaaProg.lean LOADS. Nothing in Lean hashes anything: it is a label: what it is worth is what the hold of that sum in a sandbox is worth. -/
noncomputable def Try.pinned : Pinned := { name := "ytjfcofalhajgfaa", sum := "10ab8b6c5f460b4f653ec693d1c7c0eb872400c7b60c98276c4d0c0cdbf0ea50", checked := Try.checked }
namespace Rows
def none {H : Type} : Left H := { results := [], args := [] }

/-- 'butterylaw13.MsgNames': WHATEVER THE INPUT: true; the input reads as it did. -/
def msgNamesSpec : ChangeSpec := { name := "msgNames", fn := fun _ => fun
  | [] => { results := [.lit (.bool true)], args := [] }
  | _ => none }
def msgNamesRow : OpenClaim := { program := "ytjfcofalhajgfaa", sum := "10ab8b6c5f460b4f653ec693d1c7c0eb872400c7b60c98276c4d0c0cdbf0ea50", func := "buttery/butterylaw13.MsgNames", spec := "msgNames", unfollowed := true, recurses := true, apart := false }
def MsgNamesSaid : Prop := msgNamesRow.holds Try.pinned (OpenSpec.ofChange msgNamesSpec)

/-- ITS FALSE NEIGHBOUR: 'it returns false'. Refute it at one input. -/
def msgNamesWrong : ChangeSpec := { name := "msgNames", fn := fun _ => fun
  | [] => { results := [.lit (.bool false)], args := [] }
  | _ => none }
def MsgNamesWrongFalsely : Prop := msgNamesRow.holds Try.pinned (OpenSpec.ofChange msgNamesWrong)

/-- 'butterylaw13.MsgWrites': WHATEVER THE INPUT: true; the input reads as it did. -/
def msgWritesSpec : ChangeSpec := { name := "msgWrites", fn := fun _ => fun
  | [d] => { results := [.lit (.bool true)], args := [d] }
  | _ => none }
def msgWritesRow : OpenClaim := { program := "ytjfcofalhajgfaa", sum := "10ab8b6c5f460b4f653ec693d1c7c0eb872400c7b60c98276c4d0c0cdbf0ea50", func := "buttery/butterylaw13.MsgWrites", spec := "msgWrites", unfollowed := true, recurses := true, apart := false }
def MsgWritesSaid : Prop := msgWritesRow.holds Try.pinned (OpenSpec.ofChange msgWritesSpec)

/-- ITS FALSE NEIGHBOUR: 'it returns false'. Refute it at one input. -/
def msgWritesWrong : ChangeSpec := { name := "msgWrites", fn := fun _ => fun
  | [d] => { results := [.lit (.bool false)], args := [d] }
  | _ => none }
def MsgWritesWrongFalsely : Prop := msgWritesRow.holds Try.pinned (OpenSpec.ofChange msgWritesWrong)

/-- 'butterylaw13.MsgReads': WHATEVER THE INPUT: true; the input reads as it did. -/
def msgReadsSpec : ChangeSpec := { name := "msgReads", fn := fun _ => fun
  | [d] => { results := [.lit (.bool true)], args := [d] }
  | _ => none }
def msgReadsRow : OpenClaim := { program := "ytjfcofalhajgfaa", sum := "10ab8b6c5f460b4f653ec693d1c7c0eb872400c7b60c98276c4d0c0cdbf0ea50", func := "buttery/butterylaw13.MsgReads", spec := "msgReads", unfollowed := true, recurses := true, apart := false }
def MsgReadsSaid : Prop := msgReadsRow.holds Try.pinned (OpenSpec.ofChange msgReadsSpec)

/-- ITS FALSE NEIGHBOUR: 'it returns false'. Refute it at one input. -/
def msgReadsWrong : ChangeSpec := { name := "msgReads", fn := fun _ => fun
  | [d] => { results := [.lit (.bool false)], args := [d] }
  | _ => none }
def MsgReadsWrongFalsely : Prop := msgReadsRow.holds Try.pinned (OpenSpec.ofChange msgReadsWrong)

/-- 'butterylaw13.MsgBack': WHATEVER THE INPUT: true; the input reads as it did. -/
def msgBackSpec : ChangeSpec := { name := "msgBack", fn := fun _ => fun
  | [d1, d2] => { results := [.lit (.bool true)], args := [d1, d2] }
  | _ => none }
def msgBackRow : OpenClaim := { program := "ytjfcofalhajgfaa", sum := "10ab8b6c5f460b4f653ec693d1c7c0eb872400c7b60c98276c4d0c0cdbf0ea50", func := "buttery/butterylaw13.MsgBack", spec := "msgBack", unfollowed := true, recurses := true, apart := false }
def MsgBackSaid : Prop := msgBackRow.holds Try.pinned (OpenSpec.ofChange msgBackSpec)

/-- ITS FALSE NEIGHBOUR: 'it returns false'. Refute it at one input. -/
def msgBackWrong : ChangeSpec := { name := "msgBack", fn := fun _ => fun
  | [d1, d2] => { results := [.lit (.bool false)], args := [d1, d2] }
  | _ => none }
def MsgBackWrongFalsely : Prop := msgBackRow.holds Try.pinned (OpenSpec.ofChange msgBackWrong)

/-- 'butterylaw13.MsgOnly': WHATEVER THE INPUT: true; the input reads as it did. -/
def msgOnlySpec : ChangeSpec := { name := "msgOnly", fn := fun _ => fun
  | [d1, d2] => { results := [.lit (.bool true)], args := [d1, d2] }
  | _ => none }
def msgOnlyRow : OpenClaim := { program := "ytjfcofalhajgfaa", sum := "10ab8b6c5f460b4f653ec693d1c7c0eb872400c7b60c98276c4d0c0cdbf0ea50", func := "buttery/butterylaw13.MsgOnly", spec := "msgOnly", unfollowed := true, recurses := true, apart := false }
def MsgOnlySaid : Prop := msgOnlyRow.holds Try.pinned (OpenSpec.ofChange msgOnlySpec)

/-- ITS FALSE NEIGHBOUR: 'it returns false'. Refute it at one input. -/
def msgOnlyWrong : ChangeSpec := { name := "msgOnly", fn := fun _ => fun
  | [d1, d2] => { results := [.lit (.bool false)], args := [d1, d2] }
  | _ => none }
def MsgOnlyWrongFalsely : Prop := msgOnlyRow.holds Try.pinned (OpenSpec.ofChange msgOnlyWrong)

/-- 'butterylaw14.RlogEntries': WHATEVER THE INPUT: true; the input reads as it did. -/
def rlogEntriesSpec : ChangeSpec := { name := "rlogEntries", fn := fun _ => fun
  | [d1, d2] => { results := [.lit (.bool true)], args := [d1, d2] }
  | _ => none }
def rlogEntriesRow : OpenClaim := { program := "ytjfcofalhajgfaa", sum := "10ab8b6c5f460b4f653ec693d1c7c0eb872400c7b60c98276c4d0c0cdbf0ea50", func := "buttery/butterylaw14.RlogEntries", spec := "rlogEntries", unfollowed := true, recurses := true, apart := false }
def RlogEntriesSaid : Prop := rlogEntriesRow.holds Try.pinned (OpenSpec.ofChange rlogEntriesSpec)

/-- ITS FALSE NEIGHBOUR: 'it returns false'. Refute it at one input. -/
def rlogEntriesWrong : ChangeSpec := { name := "rlogEntries", fn := fun _ => fun
  | [d1, d2] => { results := [.lit (.bool false)], args := [d1, d2] }
  | _ => none }
def RlogEntriesWrongFalsely : Prop := rlogEntriesRow.holds Try.pinned (OpenSpec.ofChange rlogEntriesWrong)

/-- 'butterylaw14.RlogNames': WHATEVER THE INPUT: true; the input reads as it did. -/
def rlogNamesSpec : ChangeSpec := { name := "rlogNames", fn := fun _ => fun
  | [] => { results := [.lit (.bool true)], args := [] }
  | _ => none }
def rlogNamesRow : OpenClaim := { program := "ytjfcofalhajgfaa", sum := "10ab8b6c5f460b4f653ec693d1c7c0eb872400c7b60c98276c4d0c0cdbf0ea50", func := "buttery/butterylaw14.RlogNames", spec := "rlogNames", unfollowed := true, recurses := true, apart := false }
def RlogNamesSaid : Prop := rlogNamesRow.holds Try.pinned (OpenSpec.ofChange rlogNamesSpec)

/-- ITS FALSE NEIGHBOUR: 'it returns false'. Refute it at one input. -/
def rlogNamesWrong : ChangeSpec := { name := "rlogNames", fn := fun _ => fun
  | [] => { results := [.lit (.bool false)], args := [] }
  | _ => none }
def RlogNamesWrongFalsely : Prop := rlogNamesRow.holds Try.pinned (OpenSpec.ofChange rlogNamesWrong)

/-- 'butterylaw14.RlogBack': WHATEVER THE INPUT: true; the input reads as it did. -/
def rlogBackSpec : ChangeSpec := { name := "rlogBack", fn := fun _ => fun
  | [d1, d2] => { results := [.lit (.bool true)], args := [d1, d2] }
  | _ => none }
def rlogBackRow : OpenClaim := { program := "ytjfcofalhajgfaa", sum := "10ab8b6c5f460b4f653ec693d1c7c0eb872400c7b60c98276c4d0c0cdbf0ea50", func := "buttery/butterylaw14.RlogBack", spec := "rlogBack", unfollowed := true, recurses := true, apart := false }
def RlogBackSaid : Prop := rlogBackRow.holds Try.pinned (OpenSpec.ofChange rlogBackSpec)

/-- ITS FALSE NEIGHBOUR: 'it returns false'. Refute it at one input. -/
def rlogBackWrong : ChangeSpec := { name := "rlogBack", fn := fun _ => fun
  | [d1, d2] => { results := [.lit (.bool false)], args := [d1, d2] }
  | _ => none }
def RlogBackWrongFalsely : Prop := rlogBackRow.holds Try.pinned (OpenSpec.ofChange rlogBackWrong)

/-- 'butterylaw14.RlogPieces': WHATEVER THE INPUT: true; the input reads as it did. -/
def rlogPiecesSpec : ChangeSpec := { name := "rlogPieces", fn := fun _ => fun
  | [d1, d2, d3, d4, d5] => { results := [.lit (.bool true)], args := [d1, d2, d3, d4, d5] }
  | _ => none }
def rlogPiecesRow : OpenClaim := { program := "ytjfcofalhajgfaa", sum := "10ab8b6c5f460b4f653ec693d1c7c0eb872400c7b60c98276c4d0c0cdbf0ea50", func := "buttery/butterylaw14.RlogPieces", spec := "rlogPieces", unfollowed := true, recurses := true, apart := false }
def RlogPiecesSaid : Prop := rlogPiecesRow.holds Try.pinned (OpenSpec.ofChange rlogPiecesSpec)

/-- ITS FALSE NEIGHBOUR: 'it returns false'. Refute it at one input. -/
def rlogPiecesWrong : ChangeSpec := { name := "rlogPieces", fn := fun _ => fun
  | [d1, d2, d3, d4, d5] => { results := [.lit (.bool false)], args := [d1, d2, d3, d4, d5] }
  | _ => none }
def RlogPiecesWrongFalsely : Prop := rlogPiecesRow.holds Try.pinned (OpenSpec.ofChange rlogPiecesWrong)

/-- 'butterylaw14.RlogCuts': WHATEVER THE INPUT: true; the input reads as it did. -/
def rlogCutsSpec : ChangeSpec := { name := "rlogCuts", fn := fun _ => fun
  | [d1, d2, d3, d4] => { results := [.lit (.bool true)], args := [d1, d2, d3, d4] }
  | _ => none }
def rlogCutsRow : OpenClaim := { program := "ytjfcofalhajgfaa", sum := "10ab8b6c5f460b4f653ec693d1c7c0eb872400c7b60c98276c4d0c0cdbf0ea50", func := "buttery/butterylaw14.RlogCuts", spec := "rlogCuts", unfollowed := true, recurses := true, apart := false }
def RlogCutsSaid : Prop := rlogCutsRow.holds Try.pinned (OpenSpec.ofChange rlogCutsSpec)

/-- ITS FALSE NEIGHBOUR: 'it returns false'. Refute it at one input. -/
def rlogCutsWrong : ChangeSpec := { name := "rlogCuts", fn := fun _ => fun
  | [d1, d2, d3, d4] => { results := [.lit (.bool false)], args := [d1, d2, d3, d4] }
  | _ => none }
def RlogCutsWrongFalsely : Prop := rlogCutsRow.holds Try.pinned (OpenSpec.ofChange rlogCutsWrong)

/- THE SECOND FORM. 'bulk': how many values and letters a reading holds, each counted each time it is reached (what is shared counts as often as it is met; a slice's spare places count too). A statement '..UptoSaid' is the law's where the arguments, and the package variables that the reading takes, are together of bulk at most 1048576: NARROWER than '..Said'. Prove '..Said' where nothing that the law and all that it calls make is longer than what came in: it says more and counts as full. Else prove '..UptoSaid'. A law counts once. -/
mutual
def uptoBulk {H : Type} : DataW H → Nat
  | .lit (.string bytes) => bytes.length + 1
  | .lit _ => 1
  | .nil => 1
  | .ptr d => uptoBulk d + 1
  | .slice elems spare => uptoBulkAll elems + uptoBulkAll spare + 1
  | .agg parts => uptoBulkAll parts + 1
  | .iface _ d => uptoBulk d + 1
  | .map entries => uptoBulkEntries entries + 1
  | .held _ => 1
def uptoBulkAll {H : Type} : List (DataW H) → Nat
  | [] => 0
  | d :: r => uptoBulk d + uptoBulkAll r
def uptoBulkEntries {H : Type} : List (Lit × DataW H) → Nat
  | [] => 0
  | x :: r => uptoBulkEntry x + uptoBulkEntries r
def uptoBulkEntry {H : Type} : Lit × DataW H → Nat
  | (.string bytes, d) => bytes.length + uptoBulk d + 1
  | (_, d) => uptoBulk d + 1
 end
def uptoSmall : (H : Type) → List (DataW H) → Bool := fun _ ds => decide (uptoBulkAll ds ≤ 1048576)
def OpenSpec.upto (s : _root_.Go.ChangeSpec) : _root_.Go.OpenSpec := { _root_.Go.OpenSpec.ofChange s with cond := some uptoSmall }

/-- 'butterylaw13.MsgNames', WHERE WHAT IT READS IS OF BULK AT MOST 1048576: true; the input reads as it did. -/
def msgNamesUptoRow : OpenClaim := { program := "ytjfcofalhajgfaa", sum := "10ab8b6c5f460b4f653ec693d1c7c0eb872400c7b60c98276c4d0c0cdbf0ea50", func := "buttery/butterylaw13.MsgNames", spec := "msgNames", unfollowed := true, recurses := true, apart := false, narrowed := true }
def MsgNamesUptoSaid : Prop := msgNamesUptoRow.holds Try.pinned (OpenSpec.upto msgNamesSpec)

/-- 'butterylaw13.MsgWrites', WHERE WHAT IT READS IS OF BULK AT MOST 1048576: true; the input reads as it did. -/
def msgWritesUptoRow : OpenClaim := { program := "ytjfcofalhajgfaa", sum := "10ab8b6c5f460b4f653ec693d1c7c0eb872400c7b60c98276c4d0c0cdbf0ea50", func := "buttery/butterylaw13.MsgWrites", spec := "msgWrites", unfollowed := true, recurses := true, apart := false, narrowed := true }
def MsgWritesUptoSaid : Prop := msgWritesUptoRow.holds Try.pinned (OpenSpec.upto msgWritesSpec)

/-- 'butterylaw13.MsgReads', WHERE WHAT IT READS IS OF BULK AT MOST 1048576: true; the input reads as it did. -/
def msgReadsUptoRow : OpenClaim := { program := "ytjfcofalhajgfaa", sum := "10ab8b6c5f460b4f653ec693d1c7c0eb872400c7b60c98276c4d0c0cdbf0ea50", func := "buttery/butterylaw13.MsgReads", spec := "msgReads", unfollowed := true, recurses := true, apart := false, narrowed := true }
def MsgReadsUptoSaid : Prop := msgReadsUptoRow.holds Try.pinned (OpenSpec.upto msgReadsSpec)

/-- 'butterylaw13.MsgBack', WHERE WHAT IT READS IS OF BULK AT MOST 1048576: true; the input reads as it did. -/
def msgBackUptoRow : OpenClaim := { program := "ytjfcofalhajgfaa", sum := "10ab8b6c5f460b4f653ec693d1c7c0eb872400c7b60c98276c4d0c0cdbf0ea50", func := "buttery/butterylaw13.MsgBack", spec := "msgBack", unfollowed := true, recurses := true, apart := false, narrowed := true }
def MsgBackUptoSaid : Prop := msgBackUptoRow.holds Try.pinned (OpenSpec.upto msgBackSpec)

/-- 'butterylaw13.MsgOnly', WHERE WHAT IT READS IS OF BULK AT MOST 1048576: true; the input reads as it did. -/
def msgOnlyUptoRow : OpenClaim := { program := "ytjfcofalhajgfaa", sum := "10ab8b6c5f460b4f653ec693d1c7c0eb872400c7b60c98276c4d0c0cdbf0ea50", func := "buttery/butterylaw13.MsgOnly", spec := "msgOnly", unfollowed := true, recurses := true, apart := false, narrowed := true }
def MsgOnlyUptoSaid : Prop := msgOnlyUptoRow.holds Try.pinned (OpenSpec.upto msgOnlySpec)

/-- 'butterylaw14.RlogEntries', WHERE WHAT IT READS IS OF BULK AT MOST 1048576: true; the input reads as it did. -/
def rlogEntriesUptoRow : OpenClaim := { program := "ytjfcofalhajgfaa", sum := "10ab8b6c5f460b4f653ec693d1c7c0eb872400c7b60c98276c4d0c0cdbf0ea50", func := "buttery/butterylaw14.RlogEntries", spec := "rlogEntries", unfollowed := true, recurses := true, apart := false, narrowed := true }
def RlogEntriesUptoSaid : Prop := rlogEntriesUptoRow.holds Try.pinned (OpenSpec.upto rlogEntriesSpec)

/-- 'butterylaw14.RlogNames', WHERE WHAT IT READS IS OF BULK AT MOST 1048576: true; the input reads as it did. -/
def rlogNamesUptoRow : OpenClaim := { program := "ytjfcofalhajgfaa", sum := "10ab8b6c5f460b4f653ec693d1c7c0eb872400c7b60c98276c4d0c0cdbf0ea50", func := "buttery/butterylaw14.RlogNames", spec := "rlogNames", unfollowed := true, recurses := true, apart := false, narrowed := true }
def RlogNamesUptoSaid : Prop := rlogNamesUptoRow.holds Try.pinned (OpenSpec.upto rlogNamesSpec)

/-- 'butterylaw14.RlogBack', WHERE WHAT IT READS IS OF BULK AT MOST 1048576: true; the input reads as it did. -/
def rlogBackUptoRow : OpenClaim := { program := "ytjfcofalhajgfaa", sum := "10ab8b6c5f460b4f653ec693d1c7c0eb872400c7b60c98276c4d0c0cdbf0ea50", func := "buttery/butterylaw14.RlogBack", spec := "rlogBack", unfollowed := true, recurses := true, apart := false, narrowed := true }
def RlogBackUptoSaid : Prop := rlogBackUptoRow.holds Try.pinned (OpenSpec.upto rlogBackSpec)

/-- 'butterylaw14.RlogPieces', WHERE WHAT IT READS IS OF BULK AT MOST 1048576: true; the input reads as it did. -/
def rlogPiecesUptoRow : OpenClaim := { program := "ytjfcofalhajgfaa", sum := "10ab8b6c5f460b4f653ec693d1c7c0eb872400c7b60c98276c4d0c0cdbf0ea50", func := "buttery/butterylaw14.RlogPieces", spec := "rlogPieces", unfollowed := true, recurses := true, apart := false, narrowed := true }
def RlogPiecesUptoSaid : Prop := rlogPiecesUptoRow.holds Try.pinned (OpenSpec.upto rlogPiecesSpec)

/-- 'butterylaw14.RlogCuts', WHERE WHAT IT READS IS OF BULK AT MOST 1048576: true; the input reads as it did. -/
def rlogCutsUptoRow : OpenClaim := { program := "ytjfcofalhajgfaa", sum := "10ab8b6c5f460b4f653ec693d1c7c0eb872400c7b60c98276c4d0c0cdbf0ea50", func := "buttery/butterylaw14.RlogCuts", spec := "rlogCuts", unfollowed := true, recurses := true, apart := false, narrowed := true }
def RlogCutsUptoSaid : Prop := rlogCutsUptoRow.holds Try.pinned (OpenSpec.upto rlogCutsSpec)

end Rows
end Go.Proofs.Ytjfcofalhajgfaa
