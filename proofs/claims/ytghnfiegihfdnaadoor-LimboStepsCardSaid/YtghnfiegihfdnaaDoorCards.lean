/-
  DERIVED. GIVEN WITH THE SEED: THE CARDS: each row of YtghnfiegihfdnaaDoorRows.lean that lists a variable, with what it lists TIED to the program's text (the seventh form; the later family's looks); each row that meets fmt, with fmt's text TOLD by the authors' own Lean function (tested against real Go, not proved from fmt's source: count such statements apart). THE CARD IS WHAT COUNTS. Prove the row's statement (the work); the ties are given (YtghnfiegihfdnaaDoorTie.lean); close each card by the builder's one call (the guide's Derived/Test/ToyasCard.lean, 'card_holds'). Laid BY PROGRAM, IN A SANDBOX (cutbox-door.mjs). By AI agents, Wed Nov 11 2026. No macro, syntax, notation, axiom, sorry.
-/
import Derived.Test.YtghnfiegihfdnaaDoorRows
import GoSem.ClaimSeven
namespace Go.Proofs.YtghnfiegihfdnaaDoor
namespace Rows

/-- THE TIED CARD OF 'honeycomblaw14.LimboTells'. -/
def limboTellsCard : Claim7 := { stood := { row := limboTellsRow, standIns := [], harness := (true, "dd7bed36dbfdec1433bf9927ac31acdef21fb14fdeb04c2850cf1b40288b4662"), looks := true }, kinds := [], alts := [], laidByText := true, laidKinds := [.data], laidTests := true, laidLooks := .later }
def LimboTellsCardSaid : Prop := Claim7.holds Tryd.pinned (.plain (OpenSpec.ofChange limboTellsSpec)) limboTellsCard

/-- THE TIED CARD OF 'honeycomblaw14.LimboSteps'. -/
def limboStepsCard : Claim7 := { stood := { row := limboStepsRow, standIns := [], harness := (true, "dd7bed36dbfdec1433bf9927ac31acdef21fb14fdeb04c2850cf1b40288b4662"), looks := true }, kinds := [], alts := [], laidByText := true, laidKinds := [.data], laidTests := true, laidLooks := .later }
def LimboStepsCardSaid : Prop := Claim7.holds Tryd.pinned (.plain (OpenSpec.ofChange limboStepsSpec)) limboStepsCard

/-- THE TIED CARD OF 'honeycomblaw14.LimboWaits'. -/
def limboWaitsCard : Claim7 := { stood := { row := limboWaitsRow, standIns := [], harness := (true, "dd7bed36dbfdec1433bf9927ac31acdef21fb14fdeb04c2850cf1b40288b4662"), looks := true }, kinds := [], alts := [], laidByText := true, laidKinds := [.data], laidTests := true, laidLooks := .later }
def LimboWaitsCardSaid : Prop := Claim7.holds Tryd.pinned (.plain (OpenSpec.ofChange limboWaitsSpec)) limboWaitsCard

/-- THE TIED CARD OF 'honeycomblaw14.LimboEnds'. -/
def limboEndsCard : Claim7 := { stood := { row := limboEndsRow, standIns := [], harness := (true, "dd7bed36dbfdec1433bf9927ac31acdef21fb14fdeb04c2850cf1b40288b4662"), looks := true }, kinds := [], alts := [], laidByText := true, laidKinds := [.data], laidTests := true, laidLooks := .later }
def LimboEndsCardSaid : Prop := Claim7.holds Tryd.pinned (.plain (OpenSpec.ofChange limboEndsSpec)) limboEndsCard

/-- THE SECOND FORM's CARD OF 'honeycomblaw14.LimboTells'. -/
def limboTellsUptoCard : Claim7 := { stood := { row := limboTellsUptoRow, standIns := [], harness := (true, "dd7bed36dbfdec1433bf9927ac31acdef21fb14fdeb04c2850cf1b40288b4662"), looks := true }, kinds := [], alts := [], laidByText := true, laidKinds := [.data], laidTests := true, laidLooks := .later }
def LimboTellsUptoCardSaid : Prop := Claim7.holds Tryd.pinned (.plain (OpenSpec.upto limboTellsSpec)) limboTellsUptoCard

/-- THE SECOND FORM's CARD OF 'honeycomblaw14.LimboSteps'. -/
def limboStepsUptoCard : Claim7 := { stood := { row := limboStepsUptoRow, standIns := [], harness := (true, "dd7bed36dbfdec1433bf9927ac31acdef21fb14fdeb04c2850cf1b40288b4662"), looks := true }, kinds := [], alts := [], laidByText := true, laidKinds := [.data], laidTests := true, laidLooks := .later }
def LimboStepsUptoCardSaid : Prop := Claim7.holds Tryd.pinned (.plain (OpenSpec.upto limboStepsSpec)) limboStepsUptoCard

/-- THE SECOND FORM's CARD OF 'honeycomblaw14.LimboWaits'. -/
def limboWaitsUptoCard : Claim7 := { stood := { row := limboWaitsUptoRow, standIns := [], harness := (true, "dd7bed36dbfdec1433bf9927ac31acdef21fb14fdeb04c2850cf1b40288b4662"), looks := true }, kinds := [], alts := [], laidByText := true, laidKinds := [.data], laidTests := true, laidLooks := .later }
def LimboWaitsUptoCardSaid : Prop := Claim7.holds Tryd.pinned (.plain (OpenSpec.upto limboWaitsSpec)) limboWaitsUptoCard

/-- THE SECOND FORM's CARD OF 'honeycomblaw14.LimboEnds'. -/
def limboEndsUptoCard : Claim7 := { stood := { row := limboEndsUptoRow, standIns := [], harness := (true, "dd7bed36dbfdec1433bf9927ac31acdef21fb14fdeb04c2850cf1b40288b4662"), looks := true }, kinds := [], alts := [], laidByText := true, laidKinds := [.data], laidTests := true, laidLooks := .later }
def LimboEndsUptoCardSaid : Prop := Claim7.holds Tryd.pinned (.plain (OpenSpec.upto limboEndsSpec)) limboEndsUptoCard
end Rows
end Go.Proofs.YtghnfiegihfdnaaDoor
