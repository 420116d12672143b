/-
  No cell of these rows narrows 'for every input' (looked for: loops, veiled, ifaces, maps, wideKeys, modest, calm, conditions, laid).
  DERIVED. THE GIVEN ROWS OF THIS SEAT. 6 by the template 'for every input the law returns true; each argument reads behind the call as it read before'; 0 by the template 'total and deterministic' (their statements: YtlebpnbpoalegaaTotals.lean).
  GIVEN WITH THE SEED: the statements are not yours to turn. If you find one false, say at which input.
  Laid BY PROGRAM, IN A SANDBOX (cutbox-rows.mjs): the forced cells as the released guide's own fill.sh prints them over the translation 1ef7cf915e0ced7d… (all of the seat's roots in one cut). By AI agents, Wed Nov 11 2026. No macro, syntax, notation, axiom, sorry.
-/
import Derived.Test.YtlebpnbpoalegaaChecked
import GoSem.Claim
import GoSem.ClaimJoined
import GoSem.ClaimMapViews
import Derived.JoinedTies
import Derived.KernelRfl
namespace Go.Proofs.Ytlebpnbpoalegaa
/- THE CELL 'sum', in the pinned program and in every row, IS THE sha256 OF THE DUMP (.gsa) THAT YtlebpnbpoalegaaProg.lean LOADS. Nothing in Lean hashes anything: it is a label: what it is worth is what the hold of that sum in a sandbox is worth. -/
noncomputable def Try.pinned : Pinned := { name := "ytlebpnbpoalegaa", sum := "1ef7cf915e0ced7db173a9e629293cdb138ce79cb075d57345f82541932d603a", checked := Try.checked }
namespace Rows
def none {H : Type} : Left H := { results := [], args := [] }

/-- 'airlinelaw03.CalendarDays': WHATEVER THE INPUT: true; the input reads as it did. -/
def calendarDaysSpec : ChangeSpec := { name := "calendarDays", fn := fun _ => fun
  | [d1, d2, d3] => { results := [.lit (.bool true)], args := [d1, d2, d3] }
  | _ => none }
def calendarDaysRow : OpenClaim := { program := "ytlebpnbpoalegaa", sum := "1ef7cf915e0ced7db173a9e629293cdb138ce79cb075d57345f82541932d603a", func := "airline/airlinelaw03.CalendarDays", spec := "calendarDays", apart := false }
def CalendarDaysSaid : Prop := calendarDaysRow.holds Try.pinned (OpenSpec.ofChange calendarDaysSpec)

/-- ITS FALSE NEIGHBOUR: 'it returns false'. Refute it at one input. -/
def calendarDaysWrong : ChangeSpec := { name := "calendarDays", fn := fun _ => fun
  | [d1, d2, d3] => { results := [.lit (.bool false)], args := [d1, d2, d3] }
  | _ => none }
def CalendarDaysWrongFalsely : Prop := calendarDaysRow.holds Try.pinned (OpenSpec.ofChange calendarDaysWrong)

/-- 'airlinelaw03.CalendarDates': WHATEVER THE INPUT: true; the input reads as it did. -/
def calendarDatesSpec : ChangeSpec := { name := "calendarDates", fn := fun _ => fun
  | [d] => { results := [.lit (.bool true)], args := [d] }
  | _ => none }
def calendarDatesRow : OpenClaim := { program := "ytlebpnbpoalegaa", sum := "1ef7cf915e0ced7db173a9e629293cdb138ce79cb075d57345f82541932d603a", func := "airline/airlinelaw03.CalendarDates", spec := "calendarDates", apart := false }
def CalendarDatesSaid : Prop := calendarDatesRow.holds Try.pinned (OpenSpec.ofChange calendarDatesSpec)

/-- ITS FALSE NEIGHBOUR: 'it returns false'. Refute it at one input. -/
def calendarDatesWrong : ChangeSpec := { name := "calendarDates", fn := fun _ => fun
  | [d] => { results := [.lit (.bool false)], args := [d] }
  | _ => none }
def CalendarDatesWrongFalsely : Prop := calendarDatesRow.holds Try.pinned (OpenSpec.ofChange calendarDatesWrong)

/-- 'airlinelaw03.CalendarWeeks': WHATEVER THE INPUT: true; the input reads as it did. -/
def calendarWeeksSpec : ChangeSpec := { name := "calendarWeeks", fn := fun _ => fun
  | [d] => { results := [.lit (.bool true)], args := [d] }
  | _ => none }
def calendarWeeksRow : OpenClaim := { program := "ytlebpnbpoalegaa", sum := "1ef7cf915e0ced7db173a9e629293cdb138ce79cb075d57345f82541932d603a", func := "airline/airlinelaw03.CalendarWeeks", spec := "calendarWeeks", apart := false }
def CalendarWeeksSaid : Prop := calendarWeeksRow.holds Try.pinned (OpenSpec.ofChange calendarWeeksSpec)

/-- ITS FALSE NEIGHBOUR: 'it returns false'. Refute it at one input. -/
def calendarWeeksWrong : ChangeSpec := { name := "calendarWeeks", fn := fun _ => fun
  | [d] => { results := [.lit (.bool false)], args := [d] }
  | _ => none }
def CalendarWeeksWrongFalsely : Prop := calendarWeeksRow.holds Try.pinned (OpenSpec.ofChange calendarWeeksWrong)

/-- 'airlinelaw03.CalendarTexts': WHATEVER THE INPUT: true; the input reads as it did. -/
def calendarTextsSpec : ChangeSpec := { name := "calendarTexts", fn := fun _ => fun
  | [d1, d2] => { results := [.lit (.bool true)], args := [d1, d2] }
  | _ => none }
def calendarTextsRow : OpenClaim := { program := "ytlebpnbpoalegaa", sum := "1ef7cf915e0ced7db173a9e629293cdb138ce79cb075d57345f82541932d603a", func := "airline/airlinelaw03.CalendarTexts", spec := "calendarTexts", apart := false }
def CalendarTextsSaid : Prop := calendarTextsRow.holds Try.pinned (OpenSpec.ofChange calendarTextsSpec)

/-- ITS FALSE NEIGHBOUR: 'it returns false'. Refute it at one input. -/
def calendarTextsWrong : ChangeSpec := { name := "calendarTexts", fn := fun _ => fun
  | [d1, d2] => { results := [.lit (.bool false)], args := [d1, d2] }
  | _ => none }
def CalendarTextsWrongFalsely : Prop := calendarTextsRow.holds Try.pinned (OpenSpec.ofChange calendarTextsWrong)

/-- 'airlinelaw03.CalendarClocks': WHATEVER THE INPUT: true; the input reads as it did. -/
def calendarClocksSpec : ChangeSpec := { name := "calendarClocks", fn := fun _ => fun
  | [d1, d2] => { results := [.lit (.bool true)], args := [d1, d2] }
  | _ => none }
def calendarClocksRow : OpenClaim := { program := "ytlebpnbpoalegaa", sum := "1ef7cf915e0ced7db173a9e629293cdb138ce79cb075d57345f82541932d603a", func := "airline/airlinelaw03.CalendarClocks", spec := "calendarClocks", apart := false }
def CalendarClocksSaid : Prop := calendarClocksRow.holds Try.pinned (OpenSpec.ofChange calendarClocksSpec)

/-- ITS FALSE NEIGHBOUR: 'it returns false'. Refute it at one input. -/
def calendarClocksWrong : ChangeSpec := { name := "calendarClocks", fn := fun _ => fun
  | [d1, d2] => { results := [.lit (.bool false)], args := [d1, d2] }
  | _ => none }
def CalendarClocksWrongFalsely : Prop := calendarClocksRow.holds Try.pinned (OpenSpec.ofChange calendarClocksWrong)

/-- 'airlinelaw03.CalendarSplits': WHATEVER THE INPUT: true; the input reads as it did. -/
def calendarSplitsSpec : ChangeSpec := { name := "calendarSplits", fn := fun _ => fun
  | [d] => { results := [.lit (.bool true)], args := [d] }
  | _ => none }
def calendarSplitsRow : OpenClaim := { program := "ytlebpnbpoalegaa", sum := "1ef7cf915e0ced7db173a9e629293cdb138ce79cb075d57345f82541932d603a", func := "airline/airlinelaw03.CalendarSplits", spec := "calendarSplits", apart := false }
def CalendarSplitsSaid : Prop := calendarSplitsRow.holds Try.pinned (OpenSpec.ofChange calendarSplitsSpec)

/-- ITS FALSE NEIGHBOUR: 'it returns false'. Refute it at one input. -/
def calendarSplitsWrong : ChangeSpec := { name := "calendarSplits", fn := fun _ => fun
  | [d] => { results := [.lit (.bool false)], args := [d] }
  | _ => none }
def CalendarSplitsWrongFalsely : Prop := calendarSplitsRow.holds Try.pinned (OpenSpec.ofChange calendarSplitsWrong)

/- THE SECOND FORM. 'bulk': how many values and letters a reading holds, each counted each time it is reached (what is shared counts as often as it is met; a slice's spare places count too). A statement '..UptoSaid' is the law's where the arguments, and the package variables that the reading takes, are together of bulk at most 1048576: NARROWER than '..Said'. Prove '..Said' where nothing that the law and all that it calls make is longer than what came in: it says more and counts as full. Else prove '..UptoSaid'. A law counts once. -/
mutual
def uptoBulk {H : Type} : DataW H → Nat
  | .lit (.string bytes) => bytes.length + 1
  | .lit _ => 1
  | .nil => 1
  | .ptr d => uptoBulk d + 1
  | .slice elems spare => uptoBulkAll elems + uptoBulkAll spare + 1
  | .agg parts => uptoBulkAll parts + 1
  | .iface _ d => uptoBulk d + 1
  | .map entries => uptoBulkEntries entries + 1
  | .held _ => 1
def uptoBulkAll {H : Type} : List (DataW H) → Nat
  | [] => 0
  | d :: r => uptoBulk d + uptoBulkAll r
def uptoBulkEntries {H : Type} : List (Lit × DataW H) → Nat
  | [] => 0
  | x :: r => uptoBulkEntry x + uptoBulkEntries r
def uptoBulkEntry {H : Type} : Lit × DataW H → Nat
  | (.string bytes, d) => bytes.length + uptoBulk d + 1
  | (_, d) => uptoBulk d + 1
 end
def uptoSmall : (H : Type) → List (DataW H) → Bool := fun _ ds => decide (uptoBulkAll ds ≤ 1048576)
def OpenSpec.upto (s : _root_.Go.ChangeSpec) : _root_.Go.OpenSpec := { _root_.Go.OpenSpec.ofChange s with cond := some uptoSmall }

/-- 'airlinelaw03.CalendarDays', WHERE WHAT IT READS IS OF BULK AT MOST 1048576: true; the input reads as it did. -/
def calendarDaysUptoRow : OpenClaim := { program := "ytlebpnbpoalegaa", sum := "1ef7cf915e0ced7db173a9e629293cdb138ce79cb075d57345f82541932d603a", func := "airline/airlinelaw03.CalendarDays", spec := "calendarDays", apart := false, narrowed := true }
def CalendarDaysUptoSaid : Prop := calendarDaysUptoRow.holds Try.pinned (OpenSpec.upto calendarDaysSpec)

/-- 'airlinelaw03.CalendarDates', WHERE WHAT IT READS IS OF BULK AT MOST 1048576: true; the input reads as it did. -/
def calendarDatesUptoRow : OpenClaim := { program := "ytlebpnbpoalegaa", sum := "1ef7cf915e0ced7db173a9e629293cdb138ce79cb075d57345f82541932d603a", func := "airline/airlinelaw03.CalendarDates", spec := "calendarDates", apart := false, narrowed := true }
def CalendarDatesUptoSaid : Prop := calendarDatesUptoRow.holds Try.pinned (OpenSpec.upto calendarDatesSpec)

/-- 'airlinelaw03.CalendarWeeks', WHERE WHAT IT READS IS OF BULK AT MOST 1048576: true; the input reads as it did. -/
def calendarWeeksUptoRow : OpenClaim := { program := "ytlebpnbpoalegaa", sum := "1ef7cf915e0ced7db173a9e629293cdb138ce79cb075d57345f82541932d603a", func := "airline/airlinelaw03.CalendarWeeks", spec := "calendarWeeks", apart := false, narrowed := true }
def CalendarWeeksUptoSaid : Prop := calendarWeeksUptoRow.holds Try.pinned (OpenSpec.upto calendarWeeksSpec)

/-- 'airlinelaw03.CalendarTexts', WHERE WHAT IT READS IS OF BULK AT MOST 1048576: true; the input reads as it did. -/
def calendarTextsUptoRow : OpenClaim := { program := "ytlebpnbpoalegaa", sum := "1ef7cf915e0ced7db173a9e629293cdb138ce79cb075d57345f82541932d603a", func := "airline/airlinelaw03.CalendarTexts", spec := "calendarTexts", apart := false, narrowed := true }
def CalendarTextsUptoSaid : Prop := calendarTextsUptoRow.holds Try.pinned (OpenSpec.upto calendarTextsSpec)

/-- 'airlinelaw03.CalendarClocks', WHERE WHAT IT READS IS OF BULK AT MOST 1048576: true; the input reads as it did. -/
def calendarClocksUptoRow : OpenClaim := { program := "ytlebpnbpoalegaa", sum := "1ef7cf915e0ced7db173a9e629293cdb138ce79cb075d57345f82541932d603a", func := "airline/airlinelaw03.CalendarClocks", spec := "calendarClocks", apart := false, narrowed := true }
def CalendarClocksUptoSaid : Prop := calendarClocksUptoRow.holds Try.pinned (OpenSpec.upto calendarClocksSpec)

/-- 'airlinelaw03.CalendarSplits', WHERE WHAT IT READS IS OF BULK AT MOST 1048576: true; the input reads as it did. -/
def calendarSplitsUptoRow : OpenClaim := { program := "ytlebpnbpoalegaa", sum := "1ef7cf915e0ced7db173a9e629293cdb138ce79cb075d57345f82541932d603a", func := "airline/airlinelaw03.CalendarSplits", spec := "calendarSplits", apart := false, narrowed := true }
def CalendarSplitsUptoSaid : Prop := calendarSplitsUptoRow.holds Try.pinned (OpenSpec.upto calendarSplitsSpec)

end Rows
end Go.Proofs.Ytlebpnbpoalegaa
