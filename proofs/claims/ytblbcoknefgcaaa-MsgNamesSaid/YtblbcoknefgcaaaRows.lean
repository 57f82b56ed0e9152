/-
  No cell of these rows narrows 'for every input' (looked for: loops, veiled, ifaces, maps, wideKeys, modest, calm, conditions, laid).
  DERIVED. THE GIVEN ROWS OF THIS SEAT. 11 by the template 'for every input the law returns true; each argument reads behind the call as it read before'; 0 by the template 'total and deterministic' (their statements: YtblbcoknefgcaaaTotals.lean).
  GIVEN WITH THE SEED: the statements are not yours to turn. If you find one false, say at which input.
  Laid BY PROGRAM, IN A SANDBOX (cutbox-rows.mjs): the forced cells as the released guide's own fill.sh prints them over the translation abb12fcc1a4fc942… (all of the seat's roots in one cut). By AI agents, Wed Nov 11 2026. No macro, syntax, notation, axiom, sorry.
-/
import Derived.Test.YtblbcoknefgcaaaChecked
import GoSem.Claim
import GoSem.ClaimJoined
import GoSem.ClaimMapViews
import Derived.JoinedTies
import Derived.KernelRfl
namespace Go.Proofs.Ytblbcoknefgcaaa
/- THE CELL 'sum', in the pinned program and in every row, IS THE sha256 OF THE DUMP (.gsa) THAT YtblbcoknefgcaaaProg.lean LOADS. Nothing in Lean hashes anything: it is a label: what it is worth is what the hold of that sum in a sandbox is worth. -/
noncomputable def Try.pinned : Pinned := { name := "ytblbcoknefgcaaa", sum := "abb12fcc1a4fc942ad7f5ba4ffda65cc4c5179c8a784904e020c571e9781c4ac", checked := Try.checked }
namespace Rows
def none {H : Type} : Left H := { results := [], args := [] }

/-- 'butterylaw13.MsgNames': WHATEVER THE INPUT: true; the input reads as it did. -/
def msgNamesSpec : ChangeSpec := { name := "msgNames", fn := fun _ => fun
  | [] => { results := [.lit (.bool true)], args := [] }
  | _ => none }
def msgNamesRow : OpenClaim := { program := "ytblbcoknefgcaaa", sum := "abb12fcc1a4fc942ad7f5ba4ffda65cc4c5179c8a784904e020c571e9781c4ac", func := "buttery/butterylaw13.MsgNames", spec := "msgNames", unfollowed := true, recurses := true, apart := false }
def MsgNamesSaid : Prop := msgNamesRow.holds Try.pinned (OpenSpec.ofChange msgNamesSpec)

/-- ITS FALSE NEIGHBOUR: 'it returns false'. Refute it at one input. -/
def msgNamesWrong : ChangeSpec := { name := "msgNames", fn := fun _ => fun
  | [] => { results := [.lit (.bool false)], args := [] }
  | _ => none }
def MsgNamesWrongFalsely : Prop := msgNamesRow.holds Try.pinned (OpenSpec.ofChange msgNamesWrong)

/-- 'butterylaw13.MsgWrites': WHATEVER THE INPUT: true; the input reads as it did. -/
def msgWritesSpec : ChangeSpec := { name := "msgWrites", fn := fun _ => fun
  | [d] => { results := [.lit (.bool true)], args := [d] }
  | _ => none }
def msgWritesRow : OpenClaim := { program := "ytblbcoknefgcaaa", sum := "abb12fcc1a4fc942ad7f5ba4ffda65cc4c5179c8a784904e020c571e9781c4ac", func := "buttery/butterylaw13.MsgWrites", spec := "msgWrites", unfollowed := true, recurses := true, apart := false }
def MsgWritesSaid : Prop := msgWritesRow.holds Try.pinned (OpenSpec.ofChange msgWritesSpec)

/-- ITS FALSE NEIGHBOUR: 'it returns false'. Refute it at one input. -/
def msgWritesWrong : ChangeSpec := { name := "msgWrites", fn := fun _ => fun
  | [d] => { results := [.lit (.bool false)], args := [d] }
  | _ => none }
def MsgWritesWrongFalsely : Prop := msgWritesRow.holds Try.pinned (OpenSpec.ofChange msgWritesWrong)

/-- 'butterylaw13.MsgReads': WHATEVER THE INPUT: true; the input reads as it did. -/
def msgReadsSpec : ChangeSpec := { name := "msgReads", fn := fun _ => fun
  | [d] => { results := [.lit (.bool true)], args := [d] }
  | _ => none }
def msgReadsRow : OpenClaim := { program := "ytblbcoknefgcaaa", sum := "abb12fcc1a4fc942ad7f5ba4ffda65cc4c5179c8a784904e020c571e9781c4ac", func := "buttery/butterylaw13.MsgReads", spec := "msgReads", unfollowed := true, recurses := true, apart := false }
def MsgReadsSaid : Prop := msgReadsRow.holds Try.pinned (OpenSpec.ofChange msgReadsSpec)

/-- ITS FALSE NEIGHBOUR: 'it returns false'. Refute it at one input. -/
def msgReadsWrong : ChangeSpec := { name := "msgReads", fn := fun _ => fun
  | [d] => { results := [.lit (.bool false)], args := [d] }
  | _ => none }
def MsgReadsWrongFalsely : Prop := msgReadsRow.holds Try.pinned (OpenSpec.ofChange msgReadsWrong)

/-- 'butterylaw13.MsgBack': WHATEVER THE INPUT: true; the input reads as it did. -/
def msgBackSpec : ChangeSpec := { name := "msgBack", fn := fun _ => fun
  | [d1, d2] => { results := [.lit (.bool true)], args := [d1, d2] }
  | _ => none }
def msgBackRow : OpenClaim := { program := "ytblbcoknefgcaaa", sum := "abb12fcc1a4fc942ad7f5ba4ffda65cc4c5179c8a784904e020c571e9781c4ac", func := "buttery/butterylaw13.MsgBack", spec := "msgBack", unfollowed := true, recurses := true, apart := false }
def MsgBackSaid : Prop := msgBackRow.holds Try.pinned (OpenSpec.ofChange msgBackSpec)

/-- ITS FALSE NEIGHBOUR: 'it returns false'. Refute it at one input. -/
def msgBackWrong : ChangeSpec := { name := "msgBack", fn := fun _ => fun
  | [d1, d2] => { results := [.lit (.bool false)], args := [d1, d2] }
  | _ => none }
def MsgBackWrongFalsely : Prop := msgBackRow.holds Try.pinned (OpenSpec.ofChange msgBackWrong)

/-- 'butterylaw13.MsgOnly': WHATEVER THE INPUT: true; the input reads as it did. -/
def msgOnlySpec : ChangeSpec := { name := "msgOnly", fn := fun _ => fun
  | [d1, d2] => { results := [.lit (.bool true)], args := [d1, d2] }
  | _ => none }
def msgOnlyRow : OpenClaim := { program := "ytblbcoknefgcaaa", sum := "abb12fcc1a4fc942ad7f5ba4ffda65cc4c5179c8a784904e020c571e9781c4ac", func := "buttery/butterylaw13.MsgOnly", spec := "msgOnly", unfollowed := true, recurses := true, apart := false }
def MsgOnlySaid : Prop := msgOnlyRow.holds Try.pinned (OpenSpec.ofChange msgOnlySpec)

/-- ITS FALSE NEIGHBOUR: 'it returns false'. Refute it at one input. -/
def msgOnlyWrong : ChangeSpec := { name := "msgOnly", fn := fun _ => fun
  | [d1, d2] => { results := [.lit (.bool false)], args := [d1, d2] }
  | _ => none }
def MsgOnlyWrongFalsely : Prop := msgOnlyRow.holds Try.pinned (OpenSpec.ofChange msgOnlyWrong)

/-- 'butterylaw15.BallotNames': WHATEVER THE INPUT: true; the input reads as it did. -/
def ballotNamesSpec : ChangeSpec := { name := "ballotNames", fn := fun _ => fun
  | [] => { results := [.lit (.bool true)], args := [] }
  | _ => none }
def ballotNamesRow : OpenClaim := { program := "ytblbcoknefgcaaa", sum := "abb12fcc1a4fc942ad7f5ba4ffda65cc4c5179c8a784904e020c571e9781c4ac", func := "buttery/butterylaw15.BallotNames", spec := "ballotNames", inPlace := ["slices.overlaps[int]"], unfollowed := true, recurses := true, apart := false }
def BallotNamesSaid : Prop := ballotNamesRow.holds Try.pinned (OpenSpec.ofChange ballotNamesSpec)

/-- ITS FALSE NEIGHBOUR: 'it returns false'. Refute it at one input. -/
def ballotNamesWrong : ChangeSpec := { name := "ballotNames", fn := fun _ => fun
  | [] => { results := [.lit (.bool false)], args := [] }
  | _ => none }
def BallotNamesWrongFalsely : Prop := ballotNamesRow.holds Try.pinned (OpenSpec.ofChange ballotNamesWrong)

/-- 'butterylaw15.BallotCounts': WHATEVER THE INPUT: true; the input reads as it did. -/
def ballotCountsSpec : ChangeSpec := { name := "ballotCounts", fn := fun _ => fun
  | [d1, d2, d3] => { results := [.lit (.bool true)], args := [d1, d2, d3] }
  | _ => none }
def ballotCountsRow : OpenClaim := { program := "ytblbcoknefgcaaa", sum := "abb12fcc1a4fc942ad7f5ba4ffda65cc4c5179c8a784904e020c571e9781c4ac", func := "buttery/butterylaw15.BallotCounts", spec := "ballotCounts", unfollowed := true, recurses := true, apart := false }
def BallotCountsSaid : Prop := ballotCountsRow.holds Try.pinned (OpenSpec.ofChange ballotCountsSpec)

/-- ITS FALSE NEIGHBOUR: 'it returns false'. Refute it at one input. -/
def ballotCountsWrong : ChangeSpec := { name := "ballotCounts", fn := fun _ => fun
  | [d1, d2, d3] => { results := [.lit (.bool false)], args := [d1, d2, d3] }
  | _ => none }
def BallotCountsWrongFalsely : Prop := ballotCountsRow.holds Try.pinned (OpenSpec.ofChange ballotCountsWrong)

/-- 'butterylaw15.BallotMeets': WHATEVER THE INPUT: true; the input reads as it did. -/
def ballotMeetsSpec : ChangeSpec := { name := "ballotMeets", fn := fun _ => fun
  | [d1, d2, d3, d4] => { results := [.lit (.bool true)], args := [d1, d2, d3, d4] }
  | _ => none }
def ballotMeetsRow : OpenClaim := { program := "ytblbcoknefgcaaa", sum := "abb12fcc1a4fc942ad7f5ba4ffda65cc4c5179c8a784904e020c571e9781c4ac", func := "buttery/butterylaw15.BallotMeets", spec := "ballotMeets", inPlace := ["slices.overlaps[int]"], unfollowed := true, recurses := true, apart := false }
def BallotMeetsSaid : Prop := ballotMeetsRow.holds Try.pinned (OpenSpec.ofChange ballotMeetsSpec)

/-- ITS FALSE NEIGHBOUR: 'it returns false'. Refute it at one input. -/
def ballotMeetsWrong : ChangeSpec := { name := "ballotMeets", fn := fun _ => fun
  | [d1, d2, d3, d4] => { results := [.lit (.bool false)], args := [d1, d2, d3, d4] }
  | _ => none }
def BallotMeetsWrongFalsely : Prop := ballotMeetsRow.holds Try.pinned (OpenSpec.ofChange ballotMeetsWrong)

/-- 'butterylaw15.BallotOnce': WHATEVER THE INPUT: true; the input reads as it did. -/
def ballotOnceSpec : ChangeSpec := { name := "ballotOnce", fn := fun _ => fun
  | [d] => { results := [.lit (.bool true)], args := [d] }
  | _ => none }
def ballotOnceRow : OpenClaim := { program := "ytblbcoknefgcaaa", sum := "abb12fcc1a4fc942ad7f5ba4ffda65cc4c5179c8a784904e020c571e9781c4ac", func := "buttery/butterylaw15.BallotOnce", spec := "ballotOnce", unfollowed := true, recurses := true, apart := false }
def BallotOnceSaid : Prop := ballotOnceRow.holds Try.pinned (OpenSpec.ofChange ballotOnceSpec)

/-- ITS FALSE NEIGHBOUR: 'it returns false'. Refute it at one input. -/
def ballotOnceWrong : ChangeSpec := { name := "ballotOnce", fn := fun _ => fun
  | [d] => { results := [.lit (.bool false)], args := [d] }
  | _ => none }
def BallotOnceWrongFalsely : Prop := ballotOnceRow.holds Try.pinned (OpenSpec.ofChange ballotOnceWrong)

/-- 'butterylaw15.BallotCommon': WHATEVER THE INPUT: true; the input reads as it did. -/
def ballotCommonSpec : ChangeSpec := { name := "ballotCommon", fn := fun _ => fun
  | [d1, d2] => { results := [.lit (.bool true)], args := [d1, d2] }
  | _ => none }
def ballotCommonRow : OpenClaim := { program := "ytblbcoknefgcaaa", sum := "abb12fcc1a4fc942ad7f5ba4ffda65cc4c5179c8a784904e020c571e9781c4ac", func := "buttery/butterylaw15.BallotCommon", spec := "ballotCommon", unfollowed := true, recurses := true, apart := false }
def BallotCommonSaid : Prop := ballotCommonRow.holds Try.pinned (OpenSpec.ofChange ballotCommonSpec)

/-- ITS FALSE NEIGHBOUR: 'it returns false'. Refute it at one input. -/
def ballotCommonWrong : ChangeSpec := { name := "ballotCommon", fn := fun _ => fun
  | [d1, d2] => { results := [.lit (.bool false)], args := [d1, d2] }
  | _ => none }
def BallotCommonWrongFalsely : Prop := ballotCommonRow.holds Try.pinned (OpenSpec.ofChange ballotCommonWrong)

/-- 'butterylaw15.BallotOrder': WHATEVER THE INPUT: true; the input reads as it did. -/
def ballotOrderSpec : ChangeSpec := { name := "ballotOrder", fn := fun _ => fun
  | [d1, d2, d3, d4, d5] => { results := [.lit (.bool true)], args := [d1, d2, d3, d4, d5] }
  | _ => none }
def ballotOrderRow : OpenClaim := { program := "ytblbcoknefgcaaa", sum := "abb12fcc1a4fc942ad7f5ba4ffda65cc4c5179c8a784904e020c571e9781c4ac", func := "buttery/butterylaw15.BallotOrder", spec := "ballotOrder", unfollowed := true, recurses := true, apart := false }
def BallotOrderSaid : Prop := ballotOrderRow.holds Try.pinned (OpenSpec.ofChange ballotOrderSpec)

/-- ITS FALSE NEIGHBOUR: 'it returns false'. Refute it at one input. -/
def ballotOrderWrong : ChangeSpec := { name := "ballotOrder", fn := fun _ => fun
  | [d1, d2, d3, d4, d5] => { results := [.lit (.bool false)], args := [d1, d2, d3, d4, d5] }
  | _ => none }
def BallotOrderWrongFalsely : Prop := ballotOrderRow.holds Try.pinned (OpenSpec.ofChange ballotOrderWrong)

/- THE SECOND FORM. 'bulk': how many values and letters a reading holds, each counted each time it is reached (what is shared counts as often as it is met; a slice's spare places count too). A statement '..UptoSaid' is the law's where the arguments, and the package variables that the reading takes, are together of bulk at most 1048576: NARROWER than '..Said'. Prove '..Said' where nothing that the law and all that it calls make is longer than what came in: it says more and counts as full. Else prove '..UptoSaid'. A law counts once. -/
mutual
def uptoBulk {H : Type} : DataW H → Nat
  | .lit (.string bytes) => bytes.length + 1
  | .lit _ => 1
  | .nil => 1
  | .ptr d => uptoBulk d + 1
  | .slice elems spare => uptoBulkAll elems + uptoBulkAll spare + 1
  | .agg parts => uptoBulkAll parts + 1
  | .iface _ d => uptoBulk d + 1
  | .map entries => uptoBulkEntries entries + 1
  | .held _ => 1
def uptoBulkAll {H : Type} : List (DataW H) → Nat
  | [] => 0
  | d :: r => uptoBulk d + uptoBulkAll r
def uptoBulkEntries {H : Type} : List (Lit × DataW H) → Nat
  | [] => 0
  | x :: r => uptoBulkEntry x + uptoBulkEntries r
def uptoBulkEntry {H : Type} : Lit × DataW H → Nat
  | (.string bytes, d) => bytes.length + uptoBulk d + 1
  | (_, d) => uptoBulk d + 1
 end
def uptoSmall : (H : Type) → List (DataW H) → Bool := fun _ ds => decide (uptoBulkAll ds ≤ 1048576)
def OpenSpec.upto (s : _root_.Go.ChangeSpec) : _root_.Go.OpenSpec := { _root_.Go.OpenSpec.ofChange s with cond := some uptoSmall }

/-- 'butterylaw13.MsgNames', WHERE WHAT IT READS IS OF BULK AT MOST 1048576: true; the input reads as it did. -/
def msgNamesUptoRow : OpenClaim := { program := "ytblbcoknefgcaaa", sum := "abb12fcc1a4fc942ad7f5ba4ffda65cc4c5179c8a784904e020c571e9781c4ac", func := "buttery/butterylaw13.MsgNames", spec := "msgNames", unfollowed := true, recurses := true, apart := false, narrowed := true }
def MsgNamesUptoSaid : Prop := msgNamesUptoRow.holds Try.pinned (OpenSpec.upto msgNamesSpec)

/-- 'butterylaw13.MsgWrites', WHERE WHAT IT READS IS OF BULK AT MOST 1048576: true; the input reads as it did. -/
def msgWritesUptoRow : OpenClaim := { program := "ytblbcoknefgcaaa", sum := "abb12fcc1a4fc942ad7f5ba4ffda65cc4c5179c8a784904e020c571e9781c4ac", func := "buttery/butterylaw13.MsgWrites", spec := "msgWrites", unfollowed := true, recurses := true, apart := false, narrowed := true }
def MsgWritesUptoSaid : Prop := msgWritesUptoRow.holds Try.pinned (OpenSpec.upto msgWritesSpec)

/-- 'butterylaw13.MsgReads', WHERE WHAT IT READS IS OF BULK AT MOST 1048576: true; the input reads as it did. -/
def msgReadsUptoRow : OpenClaim := { program := "ytblbcoknefgcaaa", sum := "abb12fcc1a4fc942ad7f5ba4ffda65cc4c5179c8a784904e020c571e9781c4ac", func := "buttery/butterylaw13.MsgReads", spec := "msgReads", unfollowed := true, recurses := true, apart := false, narrowed := true }
def MsgReadsUptoSaid : Prop := msgReadsUptoRow.holds Try.pinned (OpenSpec.upto msgReadsSpec)

/-- 'butterylaw13.MsgBack', WHERE WHAT IT READS IS OF BULK AT MOST 1048576: true; the input reads as it did. -/
def msgBackUptoRow : OpenClaim := { program := "ytblbcoknefgcaaa", sum := "abb12fcc1a4fc942ad7f5ba4ffda65cc4c5179c8a784904e020c571e9781c4ac", func := "buttery/butterylaw13.MsgBack", spec := "msgBack", unfollowed := true, recurses := true, apart := false, narrowed := true }
def MsgBackUptoSaid : Prop := msgBackUptoRow.holds Try.pinned (OpenSpec.upto msgBackSpec)

/-- 'butterylaw13.MsgOnly', WHERE WHAT IT READS IS OF BULK AT MOST 1048576: true; the input reads as it did. -/
def msgOnlyUptoRow : OpenClaim := { program := "ytblbcoknefgcaaa", sum := "abb12fcc1a4fc942ad7f5ba4ffda65cc4c5179c8a784904e020c571e9781c4ac", func := "buttery/butterylaw13.MsgOnly", spec := "msgOnly", unfollowed := true, recurses := true, apart := false, narrowed := true }
def MsgOnlyUptoSaid : Prop := msgOnlyUptoRow.holds Try.pinned (OpenSpec.upto msgOnlySpec)

/-- 'butterylaw15.BallotNames', WHERE WHAT IT READS IS OF BULK AT MOST 1048576: true; the input reads as it did. -/
def ballotNamesUptoRow : OpenClaim := { program := "ytblbcoknefgcaaa", sum := "abb12fcc1a4fc942ad7f5ba4ffda65cc4c5179c8a784904e020c571e9781c4ac", func := "buttery/butterylaw15.BallotNames", spec := "ballotNames", inPlace := ["slices.overlaps[int]"], unfollowed := true, recurses := true, apart := false, narrowed := true }
def BallotNamesUptoSaid : Prop := ballotNamesUptoRow.holds Try.pinned (OpenSpec.upto ballotNamesSpec)

/-- 'butterylaw15.BallotCounts', WHERE WHAT IT READS IS OF BULK AT MOST 1048576: true; the input reads as it did. -/
def ballotCountsUptoRow : OpenClaim := { program := "ytblbcoknefgcaaa", sum := "abb12fcc1a4fc942ad7f5ba4ffda65cc4c5179c8a784904e020c571e9781c4ac", func := "buttery/butterylaw15.BallotCounts", spec := "ballotCounts", unfollowed := true, recurses := true, apart := false, narrowed := true }
def BallotCountsUptoSaid : Prop := ballotCountsUptoRow.holds Try.pinned (OpenSpec.upto ballotCountsSpec)

/-- 'butterylaw15.BallotMeets', WHERE WHAT IT READS IS OF BULK AT MOST 1048576: true; the input reads as it did. -/
def ballotMeetsUptoRow : OpenClaim := { program := "ytblbcoknefgcaaa", sum := "abb12fcc1a4fc942ad7f5ba4ffda65cc4c5179c8a784904e020c571e9781c4ac", func := "buttery/butterylaw15.BallotMeets", spec := "ballotMeets", inPlace := ["slices.overlaps[int]"], unfollowed := true, recurses := true, apart := false, narrowed := true }
def BallotMeetsUptoSaid : Prop := ballotMeetsUptoRow.holds Try.pinned (OpenSpec.upto ballotMeetsSpec)

/-- 'butterylaw15.BallotOnce', WHERE WHAT IT READS IS OF BULK AT MOST 1048576: true; the input reads as it did. -/
def ballotOnceUptoRow : OpenClaim := { program := "ytblbcoknefgcaaa", sum := "abb12fcc1a4fc942ad7f5ba4ffda65cc4c5179c8a784904e020c571e9781c4ac", func := "buttery/butterylaw15.BallotOnce", spec := "ballotOnce", unfollowed := true, recurses := true, apart := false, narrowed := true }
def BallotOnceUptoSaid : Prop := ballotOnceUptoRow.holds Try.pinned (OpenSpec.upto ballotOnceSpec)

/-- 'butterylaw15.BallotCommon', WHERE WHAT IT READS IS OF BULK AT MOST 1048576: true; the input reads as it did. -/
def ballotCommonUptoRow : OpenClaim := { program := "ytblbcoknefgcaaa", sum := "abb12fcc1a4fc942ad7f5ba4ffda65cc4c5179c8a784904e020c571e9781c4ac", func := "buttery/butterylaw15.BallotCommon", spec := "ballotCommon", unfollowed := true, recurses := true, apart := false, narrowed := true }
def BallotCommonUptoSaid : Prop := ballotCommonUptoRow.holds Try.pinned (OpenSpec.upto ballotCommonSpec)

/-- 'butterylaw15.BallotOrder', WHERE WHAT IT READS IS OF BULK AT MOST 1048576: true; the input reads as it did. -/
def ballotOrderUptoRow : OpenClaim := { program := "ytblbcoknefgcaaa", sum := "abb12fcc1a4fc942ad7f5ba4ffda65cc4c5179c8a784904e020c571e9781c4ac", func := "buttery/butterylaw15.BallotOrder", spec := "ballotOrder", unfollowed := true, recurses := true, apart := false, narrowed := true }
def BallotOrderUptoSaid : Prop := ballotOrderUptoRow.holds Try.pinned (OpenSpec.upto ballotOrderSpec)

end Rows
end Go.Proofs.Ytblbcoknefgcaaa
