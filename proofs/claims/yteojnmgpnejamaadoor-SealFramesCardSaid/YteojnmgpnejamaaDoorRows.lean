/-
  NARROWER THAN 'FOR EVERY INPUT', by the rows' own cells (each row's printed sentence says how): SealSums: laid · SealFrames: laid · SealNames: laid · SealBack: laid · SealBursts: laid · SealCuts: laid.
  DERIVED. THE GIVEN ROWS OF THIS SEAT. 6 by the template 'for every input the law returns true; each argument reads behind the call as it read before'; 0 by the template 'total and deterministic' (their statements: YteojnmgpnejamaaDoorTotals.lean).
  GIVEN WITH THE SEED: the statements are not yours to turn. If you find one false, say at which input.
  Laid BY PROGRAM, IN A SANDBOX (cutbox-rows.mjs): the forced cells as the released guide's own fill.sh prints them over the translation b7622326de47084e… (all of the seat's roots in one cut). By AI agents, Wed Nov 11 2026. No macro, syntax, notation, axiom, sorry.
-/
import Derived.Test.YteojnmgpnejamaaDoorChecked
import GoSem.Claim
import GoSem.ClaimJoined
import GoSem.ClaimMapViews
import Derived.JoinedTies
import Derived.KernelRfl
namespace Go.Proofs.YteojnmgpnejamaaDoor
/- THE CELL 'sum', in the pinned program and in every row, IS THE sha256 OF THE DUMP (.gsa) THAT YteojnmgpnejamaaDoorProg.lean LOADS. Nothing in Lean hashes anything: it is a label: what it is worth is what the hold of that sum in a sandbox is worth. -/
noncomputable def Tryd.pinned : Pinned := { name := "yteojnmgpnejamaadoor", sum := "b7622326de47084e0dff2b2a7790d4528e392fec0ff6accecee2bc3c63c2b359", checked := Tryd.checked }
namespace Rows
def none {H : Type} : Left H := { results := [], args := [] }

/- WHAT THE LISTED PACKAGE-LEVEL VARIABLES READ AS WHEN THE CALL BEGINS. Each datum BY PROGRAM (the guide's laid-datum.mjs) off the statement by which the dump's own 'gosem.cut.vars' lays the variable. In a bare row this is a premise. The card (YteojnmgpnejamaaDoorCards.lean) ties it to the program's text. -/
def laid_buttery_seal_halfStep {H : Type} : DataW H := .agg [.lit (.int .u32 0), .lit (.int .u32 498536548), .lit (.int .u32 997073096), .lit (.int .u32 651767980), .lit (.int .u32 1994146192), .lit (.int .u32 1802195444), .lit (.int .u32 1303535960), .lit (.int .u32 1342533948), .lit (.int .u32 3988292384), .lit (.int .u32 4027552580), .lit (.int .u32 3604390888), .lit (.int .u32 3412177804), .lit (.int .u32 2607071920), .lit (.int .u32 2262029012), .lit (.int .u32 2685067896), .lit (.int .u32 3183342108)]

/-- 'butterylaw02.SealSums': WHATEVER THE INPUT: true; the input reads as it did. -/
def sealSumsSpec : ChangeSpec := { name := "sealSums", fn := fun _ => fun
  | [d1, d2] => { results := [.lit (.bool true)], args := [d1, d2] }
  | _ => none }
def sealSumsRow : OpenClaim := { program := "yteojnmgpnejamaadoor", sum := "b7622326de47084e0dff2b2a7790d4528e392fec0ff6accecee2bc3c63c2b359", func := "buttery/butterylaw02.SealSums", spec := "sealSums", unfollowed := true, recurses := true, named := ["buttery/seal.halfStep"], apart := false, laid := [("buttery/seal.halfStep", laid_buttery_seal_halfStep)] }
def SealSumsSaid : Prop := sealSumsRow.holds Tryd.pinned (OpenSpec.ofChange sealSumsSpec)

/-- ITS FALSE NEIGHBOUR: 'it returns false'. Refute it at one input. -/
def sealSumsWrong : ChangeSpec := { name := "sealSums", fn := fun _ => fun
  | [d1, d2] => { results := [.lit (.bool false)], args := [d1, d2] }
  | _ => none }
def SealSumsWrongFalsely : Prop := sealSumsRow.holds Tryd.pinned (OpenSpec.ofChange sealSumsWrong)

/-- 'butterylaw02.SealFrames': WHATEVER THE INPUT: true; the input reads as it did. -/
def sealFramesSpec : ChangeSpec := { name := "sealFrames", fn := fun _ => fun
  | [d1, d2, d3] => { results := [.lit (.bool true)], args := [d1, d2, d3] }
  | _ => none }
def sealFramesRow : OpenClaim := { program := "yteojnmgpnejamaadoor", sum := "b7622326de47084e0dff2b2a7790d4528e392fec0ff6accecee2bc3c63c2b359", func := "buttery/butterylaw02.SealFrames", spec := "sealFrames", unfollowed := true, recurses := true, named := ["buttery/seal.halfStep"], apart := false, laid := [("buttery/seal.halfStep", laid_buttery_seal_halfStep)] }
def SealFramesSaid : Prop := sealFramesRow.holds Tryd.pinned (OpenSpec.ofChange sealFramesSpec)

/-- ITS FALSE NEIGHBOUR: 'it returns false'. Refute it at one input. -/
def sealFramesWrong : ChangeSpec := { name := "sealFrames", fn := fun _ => fun
  | [d1, d2, d3] => { results := [.lit (.bool false)], args := [d1, d2, d3] }
  | _ => none }
def SealFramesWrongFalsely : Prop := sealFramesRow.holds Tryd.pinned (OpenSpec.ofChange sealFramesWrong)

/-- 'butterylaw02.SealNames': WHATEVER THE INPUT: true; the input reads as it did. -/
def sealNamesSpec : ChangeSpec := { name := "sealNames", fn := fun _ => fun
  | [] => { results := [.lit (.bool true)], args := [] }
  | _ => none }
def sealNamesRow : OpenClaim := { program := "yteojnmgpnejamaadoor", sum := "b7622326de47084e0dff2b2a7790d4528e392fec0ff6accecee2bc3c63c2b359", func := "buttery/butterylaw02.SealNames", spec := "sealNames", unfollowed := true, recurses := true, named := ["buttery/seal.halfStep"], apart := false, laid := [("buttery/seal.halfStep", laid_buttery_seal_halfStep)] }
def SealNamesSaid : Prop := sealNamesRow.holds Tryd.pinned (OpenSpec.ofChange sealNamesSpec)

/-- ITS FALSE NEIGHBOUR: 'it returns false'. Refute it at one input. -/
def sealNamesWrong : ChangeSpec := { name := "sealNames", fn := fun _ => fun
  | [] => { results := [.lit (.bool false)], args := [] }
  | _ => none }
def SealNamesWrongFalsely : Prop := sealNamesRow.holds Tryd.pinned (OpenSpec.ofChange sealNamesWrong)

/-- 'butterylaw02.SealBack': WHATEVER THE INPUT: true; the input reads as it did. -/
def sealBackSpec : ChangeSpec := { name := "sealBack", fn := fun _ => fun
  | [d1, d2, d3] => { results := [.lit (.bool true)], args := [d1, d2, d3] }
  | _ => none }
def sealBackRow : OpenClaim := { program := "yteojnmgpnejamaadoor", sum := "b7622326de47084e0dff2b2a7790d4528e392fec0ff6accecee2bc3c63c2b359", func := "buttery/butterylaw02.SealBack", spec := "sealBack", unfollowed := true, recurses := true, named := ["buttery/seal.halfStep"], apart := false, laid := [("buttery/seal.halfStep", laid_buttery_seal_halfStep)] }
def SealBackSaid : Prop := sealBackRow.holds Tryd.pinned (OpenSpec.ofChange sealBackSpec)

/-- ITS FALSE NEIGHBOUR: 'it returns false'. Refute it at one input. -/
def sealBackWrong : ChangeSpec := { name := "sealBack", fn := fun _ => fun
  | [d1, d2, d3] => { results := [.lit (.bool false)], args := [d1, d2, d3] }
  | _ => none }
def SealBackWrongFalsely : Prop := sealBackRow.holds Tryd.pinned (OpenSpec.ofChange sealBackWrong)

/-- 'butterylaw02.SealBursts': WHATEVER THE INPUT: true; the input reads as it did. -/
def sealBurstsSpec : ChangeSpec := { name := "sealBursts", fn := fun _ => fun
  | [d1, d2, d3, d4] => { results := [.lit (.bool true)], args := [d1, d2, d3, d4] }
  | _ => none }
def sealBurstsRow : OpenClaim := { program := "yteojnmgpnejamaadoor", sum := "b7622326de47084e0dff2b2a7790d4528e392fec0ff6accecee2bc3c63c2b359", func := "buttery/butterylaw02.SealBursts", spec := "sealBursts", unfollowed := true, recurses := true, named := ["buttery/seal.halfStep"], apart := false, laid := [("buttery/seal.halfStep", laid_buttery_seal_halfStep)] }
def SealBurstsSaid : Prop := sealBurstsRow.holds Tryd.pinned (OpenSpec.ofChange sealBurstsSpec)

/-- ITS FALSE NEIGHBOUR: 'it returns false'. Refute it at one input. -/
def sealBurstsWrong : ChangeSpec := { name := "sealBursts", fn := fun _ => fun
  | [d1, d2, d3, d4] => { results := [.lit (.bool false)], args := [d1, d2, d3, d4] }
  | _ => none }
def SealBurstsWrongFalsely : Prop := sealBurstsRow.holds Tryd.pinned (OpenSpec.ofChange sealBurstsWrong)

/-- 'butterylaw02.SealCuts': WHATEVER THE INPUT: true; the input reads as it did. -/
def sealCutsSpec : ChangeSpec := { name := "sealCuts", fn := fun _ => fun
  | [d1, d2, d3, d4] => { results := [.lit (.bool true)], args := [d1, d2, d3, d4] }
  | _ => none }
def sealCutsRow : OpenClaim := { program := "yteojnmgpnejamaadoor", sum := "b7622326de47084e0dff2b2a7790d4528e392fec0ff6accecee2bc3c63c2b359", func := "buttery/butterylaw02.SealCuts", spec := "sealCuts", unfollowed := true, recurses := true, named := ["buttery/seal.halfStep"], apart := false, laid := [("buttery/seal.halfStep", laid_buttery_seal_halfStep)] }
def SealCutsSaid : Prop := sealCutsRow.holds Tryd.pinned (OpenSpec.ofChange sealCutsSpec)

/-- ITS FALSE NEIGHBOUR: 'it returns false'. Refute it at one input. -/
def sealCutsWrong : ChangeSpec := { name := "sealCuts", fn := fun _ => fun
  | [d1, d2, d3, d4] => { results := [.lit (.bool false)], args := [d1, d2, d3, d4] }
  | _ => none }
def SealCutsWrongFalsely : Prop := sealCutsRow.holds Tryd.pinned (OpenSpec.ofChange sealCutsWrong)

/- THE SECOND FORM. 'bulk': how many values and letters a reading holds, each counted each time it is reached (what is shared counts as often as it is met; a slice's spare places count too). A statement '..UptoSaid' is the law's where the arguments, and the package variables that the reading takes, are together of bulk at most 1048576: NARROWER than '..Said'. Prove '..Said' where nothing that the law and all that it calls make is longer than what came in: it says more and counts as full. Else prove '..UptoSaid'. A law counts once. -/
mutual
def uptoBulk {H : Type} : DataW H → Nat
  | .lit (.string bytes) => bytes.length + 1
  | .lit _ => 1
  | .nil => 1
  | .ptr d => uptoBulk d + 1
  | .slice elems spare => uptoBulkAll elems + uptoBulkAll spare + 1
  | .agg parts => uptoBulkAll parts + 1
  | .iface _ d => uptoBulk d + 1
  | .map entries => uptoBulkEntries entries + 1
  | .held _ => 1
def uptoBulkAll {H : Type} : List (DataW H) → Nat
  | [] => 0
  | d :: r => uptoBulk d + uptoBulkAll r
def uptoBulkEntries {H : Type} : List (Lit × DataW H) → Nat
  | [] => 0
  | x :: r => uptoBulkEntry x + uptoBulkEntries r
def uptoBulkEntry {H : Type} : Lit × DataW H → Nat
  | (.string bytes, d) => bytes.length + uptoBulk d + 1
  | (_, d) => uptoBulk d + 1
 end
def uptoSmall : (H : Type) → List (DataW H) → Bool := fun _ ds => decide (uptoBulkAll ds ≤ 1048576)
def OpenSpec.upto (s : _root_.Go.ChangeSpec) : _root_.Go.OpenSpec := { _root_.Go.OpenSpec.ofChange s with cond := some uptoSmall }

/-- 'butterylaw02.SealSums', WHERE WHAT IT READS IS OF BULK AT MOST 1048576: true; the input reads as it did. -/
def sealSumsUptoRow : OpenClaim := { program := "yteojnmgpnejamaadoor", sum := "b7622326de47084e0dff2b2a7790d4528e392fec0ff6accecee2bc3c63c2b359", func := "buttery/butterylaw02.SealSums", spec := "sealSums", unfollowed := true, recurses := true, named := ["buttery/seal.halfStep"], apart := false, laid := [("buttery/seal.halfStep", laid_buttery_seal_halfStep)], narrowed := true }
def SealSumsUptoSaid : Prop := sealSumsUptoRow.holds Tryd.pinned (OpenSpec.upto sealSumsSpec)

/-- 'butterylaw02.SealFrames', WHERE WHAT IT READS IS OF BULK AT MOST 1048576: true; the input reads as it did. -/
def sealFramesUptoRow : OpenClaim := { program := "yteojnmgpnejamaadoor", sum := "b7622326de47084e0dff2b2a7790d4528e392fec0ff6accecee2bc3c63c2b359", func := "buttery/butterylaw02.SealFrames", spec := "sealFrames", unfollowed := true, recurses := true, named := ["buttery/seal.halfStep"], apart := false, laid := [("buttery/seal.halfStep", laid_buttery_seal_halfStep)], narrowed := true }
def SealFramesUptoSaid : Prop := sealFramesUptoRow.holds Tryd.pinned (OpenSpec.upto sealFramesSpec)

/-- 'butterylaw02.SealNames', WHERE WHAT IT READS IS OF BULK AT MOST 1048576: true; the input reads as it did. -/
def sealNamesUptoRow : OpenClaim := { program := "yteojnmgpnejamaadoor", sum := "b7622326de47084e0dff2b2a7790d4528e392fec0ff6accecee2bc3c63c2b359", func := "buttery/butterylaw02.SealNames", spec := "sealNames", unfollowed := true, recurses := true, named := ["buttery/seal.halfStep"], apart := false, laid := [("buttery/seal.halfStep", laid_buttery_seal_halfStep)], narrowed := true }
def SealNamesUptoSaid : Prop := sealNamesUptoRow.holds Tryd.pinned (OpenSpec.upto sealNamesSpec)

/-- 'butterylaw02.SealBack', WHERE WHAT IT READS IS OF BULK AT MOST 1048576: true; the input reads as it did. -/
def sealBackUptoRow : OpenClaim := { program := "yteojnmgpnejamaadoor", sum := "b7622326de47084e0dff2b2a7790d4528e392fec0ff6accecee2bc3c63c2b359", func := "buttery/butterylaw02.SealBack", spec := "sealBack", unfollowed := true, recurses := true, named := ["buttery/seal.halfStep"], apart := false, laid := [("buttery/seal.halfStep", laid_buttery_seal_halfStep)], narrowed := true }
def SealBackUptoSaid : Prop := sealBackUptoRow.holds Tryd.pinned (OpenSpec.upto sealBackSpec)

/-- 'butterylaw02.SealBursts', WHERE WHAT IT READS IS OF BULK AT MOST 1048576: true; the input reads as it did. -/
def sealBurstsUptoRow : OpenClaim := { program := "yteojnmgpnejamaadoor", sum := "b7622326de47084e0dff2b2a7790d4528e392fec0ff6accecee2bc3c63c2b359", func := "buttery/butterylaw02.SealBursts", spec := "sealBursts", unfollowed := true, recurses := true, named := ["buttery/seal.halfStep"], apart := false, laid := [("buttery/seal.halfStep", laid_buttery_seal_halfStep)], narrowed := true }
def SealBurstsUptoSaid : Prop := sealBurstsUptoRow.holds Tryd.pinned (OpenSpec.upto sealBurstsSpec)

/-- 'butterylaw02.SealCuts', WHERE WHAT IT READS IS OF BULK AT MOST 1048576: true; the input reads as it did. -/
def sealCutsUptoRow : OpenClaim := { program := "yteojnmgpnejamaadoor", sum := "b7622326de47084e0dff2b2a7790d4528e392fec0ff6accecee2bc3c63c2b359", func := "buttery/butterylaw02.SealCuts", spec := "sealCuts", unfollowed := true, recurses := true, named := ["buttery/seal.halfStep"], apart := false, laid := [("buttery/seal.halfStep", laid_buttery_seal_halfStep)], narrowed := true }
def SealCutsUptoSaid : Prop := sealCutsUptoRow.holds Tryd.pinned (OpenSpec.upto sealCutsSpec)

end Rows
end Go.Proofs.YteojnmgpnejamaaDoor
