/-
  DERIVED. GIVEN WITH THE SEED: THE CARDS: each row of YtiaicpdbobgkoaaDoorRows.lean that lists a variable, with what it lists TIED to the program's text (the seventh form; the later family's looks); each row that meets fmt, with fmt's text TOLD by the authors' own Lean function (tested against real Go, not proved from fmt's source: count such statements apart). THE CARD IS WHAT COUNTS. Prove the row's statement (the work); the ties are given (YtiaicpdbobgkoaaDoorTie.lean); close each card by the builder's one call (the guide's Derived/Test/ToyasCard.lean, 'card_holds'). Laid BY PROGRAM, IN A SANDBOX (cutbox-door.mjs). By AI agents, Wed Nov 11 2026. No macro, syntax, notation, axiom, sorry.
-/
import Derived.Test.YtiaicpdbobgkoaaDoorRows
import GoSem.ClaimSeven
namespace Go.Proofs.YtiaicpdbobgkoaaDoor
namespace Rows

/-- THE TIED CARD OF 'engrosslaw8.SuperSaves'. -/
def superSavesCard : Claim7 := { stood := { row := superSavesRow, standIns := [], harness := (true, "804f6d62afe25e291fe3fe8100b83683e0982aeaea7c48f07ca0de3d1e970544"), looks := false }, kinds := [], alts := [], laidByText := true, laidKinds := [.data], laidTests := true, laidLooks := .later }
def SuperSavesCardSaid : Prop := Claim7.holds Tryd.pinned (.plain (OpenSpec.ofChange superSavesSpec)) superSavesCard

/-- THE TIED CARD OF 'engrosslaw8.SuperCrash'. -/
def superCrashCard : Claim7 := { stood := { row := superCrashRow, standIns := [], harness := (true, "804f6d62afe25e291fe3fe8100b83683e0982aeaea7c48f07ca0de3d1e970544"), looks := false }, kinds := [], alts := [], laidByText := true, laidKinds := [.data], laidTests := true, laidLooks := .later }
def SuperCrashCardSaid : Prop := Claim7.holds Tryd.pinned (.plain (OpenSpec.ofChange superCrashSpec)) superCrashCard

/-- THE TIED CARD OF 'engrosslaw8.SuperNone'. -/
def superNoneCard : Claim7 := { stood := { row := superNoneRow, standIns := [], harness := (true, "804f6d62afe25e291fe3fe8100b83683e0982aeaea7c48f07ca0de3d1e970544"), looks := false }, kinds := [], alts := [], laidByText := true, laidKinds := [.data], laidTests := true, laidLooks := .later }
def SuperNoneCardSaid : Prop := Claim7.holds Tryd.pinned (.plain (OpenSpec.ofChange superNoneSpec)) superNoneCard

/-- THE TIED CARD OF 'engrosslaw8.SuperTwo'. -/
def superTwoCard : Claim7 := { stood := { row := superTwoRow, standIns := [], harness := (true, "804f6d62afe25e291fe3fe8100b83683e0982aeaea7c48f07ca0de3d1e970544"), looks := false }, kinds := [], alts := [], laidByText := true, laidKinds := [.data], laidTests := true, laidLooks := .later }
def SuperTwoCardSaid : Prop := Claim7.holds Tryd.pinned (.plain (OpenSpec.ofChange superTwoSpec)) superTwoCard

/-- THE SECOND FORM's CARD OF 'engrosslaw8.SuperSaves'. -/
def superSavesUptoCard : Claim7 := { stood := { row := superSavesUptoRow, standIns := [], harness := (true, "804f6d62afe25e291fe3fe8100b83683e0982aeaea7c48f07ca0de3d1e970544"), looks := false }, kinds := [], alts := [], laidByText := true, laidKinds := [.data], laidTests := true, laidLooks := .later }
def SuperSavesUptoCardSaid : Prop := Claim7.holds Tryd.pinned (.plain (OpenSpec.upto superSavesSpec)) superSavesUptoCard

/-- THE SECOND FORM's CARD OF 'engrosslaw8.SuperCrash'. -/
def superCrashUptoCard : Claim7 := { stood := { row := superCrashUptoRow, standIns := [], harness := (true, "804f6d62afe25e291fe3fe8100b83683e0982aeaea7c48f07ca0de3d1e970544"), looks := false }, kinds := [], alts := [], laidByText := true, laidKinds := [.data], laidTests := true, laidLooks := .later }
def SuperCrashUptoCardSaid : Prop := Claim7.holds Tryd.pinned (.plain (OpenSpec.upto superCrashSpec)) superCrashUptoCard

/-- THE SECOND FORM's CARD OF 'engrosslaw8.SuperNone'. -/
def superNoneUptoCard : Claim7 := { stood := { row := superNoneUptoRow, standIns := [], harness := (true, "804f6d62afe25e291fe3fe8100b83683e0982aeaea7c48f07ca0de3d1e970544"), looks := false }, kinds := [], alts := [], laidByText := true, laidKinds := [.data], laidTests := true, laidLooks := .later }
def SuperNoneUptoCardSaid : Prop := Claim7.holds Tryd.pinned (.plain (OpenSpec.upto superNoneSpec)) superNoneUptoCard

/-- THE SECOND FORM's CARD OF 'engrosslaw8.SuperTwo'. -/
def superTwoUptoCard : Claim7 := { stood := { row := superTwoUptoRow, standIns := [], harness := (true, "804f6d62afe25e291fe3fe8100b83683e0982aeaea7c48f07ca0de3d1e970544"), looks := false }, kinds := [], alts := [], laidByText := true, laidKinds := [.data], laidTests := true, laidLooks := .later }
def SuperTwoUptoCardSaid : Prop := Claim7.holds Tryd.pinned (.plain (OpenSpec.upto superTwoSpec)) superTwoUptoCard
end Rows
end Go.Proofs.YtiaicpdbobgkoaaDoor
