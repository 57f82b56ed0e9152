/-
  DERIVED. GIVEN WITH THE SEED: THE CARDS: each row of YtfmaocinckeagaaDoorRows.lean that lists a variable, with what it lists TIED to the program's text (the seventh form; the later family's looks); each row that meets fmt, with fmt's text TOLD by the authors' own Lean function (tested against real Go, not proved from fmt's source: count such statements apart). THE CARD IS WHAT COUNTS. Prove the row's statement (the work); the ties are given (YtfmaocinckeagaaDoorTie.lean); close each card by the builder's one call (the guide's Derived/Test/ToyasCard.lean, 'card_holds'). Laid BY PROGRAM, IN A SANDBOX (cutbox-door.mjs). By AI agents, Wed Nov 11 2026. No macro, syntax, notation, axiom, sorry.
-/
import Derived.Test.YtfmaocinckeagaaDoorRows
import GoSem.ClaimSeven
namespace Go.Proofs.YtfmaocinckeagaaDoor
namespace Rows

/-- THE TIED CARD OF 'butterylaw11.PartsNames'. -/
def partsNamesCard : Claim7 := { stood := { row := partsNamesRow, standIns := [], harness := (true, "07560e05eadcaaf52cc350800e3517ef15eb6aa3cd350fdd622e1e18bf3de007"), looks := false }, kinds := [], alts := [], laidByText := true, laidKinds := [.data], laidTests := true, laidLooks := .later }
def PartsNamesCardSaid : Prop := Claim7.holds Tryd.pinned (.plain (OpenSpec.ofChange partsNamesSpec)) partsNamesCard

/-- THE TIED CARD OF 'butterylaw11.PartsForms'. -/
def partsFormsCard : Claim7 := { stood := { row := partsFormsRow, standIns := [], harness := (true, "07560e05eadcaaf52cc350800e3517ef15eb6aa3cd350fdd622e1e18bf3de007"), looks := false }, kinds := [], alts := [], laidByText := true, laidKinds := [.data], laidTests := true, laidLooks := .later }
def PartsFormsCardSaid : Prop := Claim7.holds Tryd.pinned (.plain (OpenSpec.ofChange partsFormsSpec)) partsFormsCard

/-- THE TIED CARD OF 'butterylaw11.PartsCut'. -/
def partsCutCard : Claim7 := { stood := { row := partsCutRow, standIns := [], harness := (true, "07560e05eadcaaf52cc350800e3517ef15eb6aa3cd350fdd622e1e18bf3de007"), looks := false }, kinds := [], alts := [], laidByText := true, laidKinds := [.data], laidTests := true, laidLooks := .later }
def PartsCutCardSaid : Prop := Claim7.holds Tryd.pinned (.plain (OpenSpec.ofChange partsCutSpec)) partsCutCard

/-- THE TIED CARD OF 'butterylaw11.PartsTake'. -/
def partsTakeCard : Claim7 := { stood := { row := partsTakeRow, standIns := [], harness := (true, "07560e05eadcaaf52cc350800e3517ef15eb6aa3cd350fdd622e1e18bf3de007"), looks := false }, kinds := [], alts := [], laidByText := true, laidKinds := [.data], laidTests := true, laidLooks := .later }
def PartsTakeCardSaid : Prop := Claim7.holds Tryd.pinned (.plain (OpenSpec.ofChange partsTakeSpec)) partsTakeCard

/-- THE TIED CARD OF 'butterylaw11.PartsWhole'. -/
def partsWholeCard : Claim7 := { stood := { row := partsWholeRow, standIns := [], harness := (true, "07560e05eadcaaf52cc350800e3517ef15eb6aa3cd350fdd622e1e18bf3de007"), looks := false }, kinds := [], alts := [], laidByText := true, laidKinds := [.data], laidTests := true, laidLooks := .later }
def PartsWholeCardSaid : Prop := Claim7.holds Tryd.pinned (.plain (OpenSpec.ofChange partsWholeSpec)) partsWholeCard

/-- THE TIED CARD OF 'butterylaw11.PartsApart'. -/
def partsApartCard : Claim7 := { stood := { row := partsApartRow, standIns := [], harness := (true, "07560e05eadcaaf52cc350800e3517ef15eb6aa3cd350fdd622e1e18bf3de007"), looks := false }, kinds := [], alts := [], laidByText := true, laidKinds := [.data], laidTests := true, laidLooks := .later }
def PartsApartCardSaid : Prop := Claim7.holds Tryd.pinned (.plain (OpenSpec.ofChange partsApartSpec)) partsApartCard

/-- THE TIED CARD OF 'butterylaw11.PartsNothing'. -/
def partsNothingCard : Claim7 := { stood := { row := partsNothingRow, standIns := [], harness := (true, "07560e05eadcaaf52cc350800e3517ef15eb6aa3cd350fdd622e1e18bf3de007"), looks := false }, kinds := [], alts := [], laidByText := true, laidKinds := [.data], laidTests := true, laidLooks := .later }
def PartsNothingCardSaid : Prop := Claim7.holds Tryd.pinned (.plain (OpenSpec.ofChange partsNothingSpec)) partsNothingCard

/-- THE SECOND FORM's CARD OF 'butterylaw11.PartsNames'. -/
def partsNamesUptoCard : Claim7 := { stood := { row := partsNamesUptoRow, standIns := [], harness := (true, "07560e05eadcaaf52cc350800e3517ef15eb6aa3cd350fdd622e1e18bf3de007"), looks := false }, kinds := [], alts := [], laidByText := true, laidKinds := [.data], laidTests := true, laidLooks := .later }
def PartsNamesUptoCardSaid : Prop := Claim7.holds Tryd.pinned (.plain (OpenSpec.upto partsNamesSpec)) partsNamesUptoCard

/-- THE SECOND FORM's CARD OF 'butterylaw11.PartsForms'. -/
def partsFormsUptoCard : Claim7 := { stood := { row := partsFormsUptoRow, standIns := [], harness := (true, "07560e05eadcaaf52cc350800e3517ef15eb6aa3cd350fdd622e1e18bf3de007"), looks := false }, kinds := [], alts := [], laidByText := true, laidKinds := [.data], laidTests := true, laidLooks := .later }
def PartsFormsUptoCardSaid : Prop := Claim7.holds Tryd.pinned (.plain (OpenSpec.upto partsFormsSpec)) partsFormsUptoCard

/-- THE SECOND FORM's CARD OF 'butterylaw11.PartsCut'. -/
def partsCutUptoCard : Claim7 := { stood := { row := partsCutUptoRow, standIns := [], harness := (true, "07560e05eadcaaf52cc350800e3517ef15eb6aa3cd350fdd622e1e18bf3de007"), looks := false }, kinds := [], alts := [], laidByText := true, laidKinds := [.data], laidTests := true, laidLooks := .later }
def PartsCutUptoCardSaid : Prop := Claim7.holds Tryd.pinned (.plain (OpenSpec.upto partsCutSpec)) partsCutUptoCard

/-- THE SECOND FORM's CARD OF 'butterylaw11.PartsTake'. -/
def partsTakeUptoCard : Claim7 := { stood := { row := partsTakeUptoRow, standIns := [], harness := (true, "07560e05eadcaaf52cc350800e3517ef15eb6aa3cd350fdd622e1e18bf3de007"), looks := false }, kinds := [], alts := [], laidByText := true, laidKinds := [.data], laidTests := true, laidLooks := .later }
def PartsTakeUptoCardSaid : Prop := Claim7.holds Tryd.pinned (.plain (OpenSpec.upto partsTakeSpec)) partsTakeUptoCard

/-- THE SECOND FORM's CARD OF 'butterylaw11.PartsWhole'. -/
def partsWholeUptoCard : Claim7 := { stood := { row := partsWholeUptoRow, standIns := [], harness := (true, "07560e05eadcaaf52cc350800e3517ef15eb6aa3cd350fdd622e1e18bf3de007"), looks := false }, kinds := [], alts := [], laidByText := true, laidKinds := [.data], laidTests := true, laidLooks := .later }
def PartsWholeUptoCardSaid : Prop := Claim7.holds Tryd.pinned (.plain (OpenSpec.upto partsWholeSpec)) partsWholeUptoCard

/-- THE SECOND FORM's CARD OF 'butterylaw11.PartsApart'. -/
def partsApartUptoCard : Claim7 := { stood := { row := partsApartUptoRow, standIns := [], harness := (true, "07560e05eadcaaf52cc350800e3517ef15eb6aa3cd350fdd622e1e18bf3de007"), looks := false }, kinds := [], alts := [], laidByText := true, laidKinds := [.data], laidTests := true, laidLooks := .later }
def PartsApartUptoCardSaid : Prop := Claim7.holds Tryd.pinned (.plain (OpenSpec.upto partsApartSpec)) partsApartUptoCard

/-- THE SECOND FORM's CARD OF 'butterylaw11.PartsNothing'. -/
def partsNothingUptoCard : Claim7 := { stood := { row := partsNothingUptoRow, standIns := [], harness := (true, "07560e05eadcaaf52cc350800e3517ef15eb6aa3cd350fdd622e1e18bf3de007"), looks := false }, kinds := [], alts := [], laidByText := true, laidKinds := [.data], laidTests := true, laidLooks := .later }
def PartsNothingUptoCardSaid : Prop := Claim7.holds Tryd.pinned (.plain (OpenSpec.upto partsNothingSpec)) partsNothingUptoCard
end Rows
end Go.Proofs.YtfmaocinckeagaaDoor
