/-
  No cell of these rows narrows 'for every input' (looked for: loops, veiled, ifaces, maps, wideKeys, modest, calm, conditions, laid).
  DERIVED. THE GIVEN ROWS OF THIS SEAT. 5 by the template 'for every input the law returns true; each argument reads behind the call as it read before'; 0 by the template 'total and deterministic' (their statements: YtnfdmdhpbaifiaaTotals.lean).
  GIVEN WITH THE SEED: the statements are not yours to turn. If you find one false, say at which input.
  Laid BY PROGRAM, IN A SANDBOX (cutbox-rows.mjs): the forced cells as the released guide's own fill.sh prints them over the translation 7584fc03845bc071… (all of the seat's roots in one cut). By AI agents, Wed Nov 11 2026. No macro, syntax, notation, axiom, sorry.
-/
import Derived.Test.YtnfdmdhpbaifiaaChecked
import GoSem.Claim
import GoSem.ClaimJoined
import GoSem.ClaimMapViews
import Derived.JoinedTies
import Derived.KernelRfl
namespace Go.Proofs.Ytnfdmdhpbaifiaa
/- THE CELL 'sum', in the pinned program and in every row, IS THE sha256 OF THE DUMP (.gsa) THAT YtnfdmdhpbaifiaaProg.lean LOADS. Nothing in Lean hashes anything: it is a label: what it is worth is what the hold of that sum in a sandbox is worth. -/
noncomputable def Try.pinned : Pinned := { name := "ytnfdmdhpbaifiaa", sum := "7584fc03845bc0711d26f3a863b681f905d97fbff9ecd1aabd843564be4424af", checked := Try.checked }
namespace Rows
def none {H : Type} : Left H := { results := [], args := [] }

/-- 'airlinelaw04.PeriodDays': WHATEVER THE INPUT: true; the input reads as it did. -/
def periodDaysSpec : ChangeSpec := { name := "periodDays", fn := fun _ => fun
  | [d1, d2] => { results := [.lit (.bool true)], args := [d1, d2] }
  | _ => none }
def periodDaysRow : OpenClaim := { program := "ytnfdmdhpbaifiaa", sum := "7584fc03845bc0711d26f3a863b681f905d97fbff9ecd1aabd843564be4424af", func := "airline/airlinelaw04.PeriodDays", spec := "periodDays", unfollowed := true, recurses := true, apart := false }
def PeriodDaysSaid : Prop := periodDaysRow.holds Try.pinned (OpenSpec.ofChange periodDaysSpec)

/-- ITS FALSE NEIGHBOUR: 'it returns false'. Refute it at one input. -/
def periodDaysWrong : ChangeSpec := { name := "periodDays", fn := fun _ => fun
  | [d1, d2] => { results := [.lit (.bool false)], args := [d1, d2] }
  | _ => none }
def PeriodDaysWrongFalsely : Prop := periodDaysRow.holds Try.pinned (OpenSpec.ofChange periodDaysWrong)

/-- 'airlinelaw04.PeriodSets': WHATEVER THE INPUT: true; the input reads as it did. -/
def periodSetsSpec : ChangeSpec := { name := "periodSets", fn := fun _ => fun
  | [d1, d2] => { results := [.lit (.bool true)], args := [d1, d2] }
  | _ => none }
def periodSetsRow : OpenClaim := { program := "ytnfdmdhpbaifiaa", sum := "7584fc03845bc0711d26f3a863b681f905d97fbff9ecd1aabd843564be4424af", func := "airline/airlinelaw04.PeriodSets", spec := "periodSets", unfollowed := true, recurses := true, apart := false }
def PeriodSetsSaid : Prop := periodSetsRow.holds Try.pinned (OpenSpec.ofChange periodSetsSpec)

/-- ITS FALSE NEIGHBOUR: 'it returns false'. Refute it at one input. -/
def periodSetsWrong : ChangeSpec := { name := "periodSets", fn := fun _ => fun
  | [d1, d2] => { results := [.lit (.bool false)], args := [d1, d2] }
  | _ => none }
def PeriodSetsWrongFalsely : Prop := periodSetsRow.holds Try.pinned (OpenSpec.ofChange periodSetsWrong)

/-- 'airlinelaw04.PeriodParts': WHATEVER THE INPUT: true; the input reads as it did. -/
def periodPartsSpec : ChangeSpec := { name := "periodParts", fn := fun _ => fun
  | [d1, d2, d3] => { results := [.lit (.bool true)], args := [d1, d2, d3] }
  | _ => none }
def periodPartsRow : OpenClaim := { program := "ytnfdmdhpbaifiaa", sum := "7584fc03845bc0711d26f3a863b681f905d97fbff9ecd1aabd843564be4424af", func := "airline/airlinelaw04.PeriodParts", spec := "periodParts", unfollowed := true, recurses := true, apart := false }
def PeriodPartsSaid : Prop := periodPartsRow.holds Try.pinned (OpenSpec.ofChange periodPartsSpec)

/-- ITS FALSE NEIGHBOUR: 'it returns false'. Refute it at one input. -/
def periodPartsWrong : ChangeSpec := { name := "periodParts", fn := fun _ => fun
  | [d1, d2, d3] => { results := [.lit (.bool false)], args := [d1, d2, d3] }
  | _ => none }
def PeriodPartsWrongFalsely : Prop := periodPartsRow.holds Try.pinned (OpenSpec.ofChange periodPartsWrong)

/-- 'airlinelaw04.PeriodCanonical': WHATEVER THE INPUT: true; the input reads as it did. -/
def periodCanonicalSpec : ChangeSpec := { name := "periodCanonical", fn := fun _ => fun
  | [d1, d2] => { results := [.lit (.bool true)], args := [d1, d2] }
  | _ => none }
def periodCanonicalRow : OpenClaim := { program := "ytnfdmdhpbaifiaa", sum := "7584fc03845bc0711d26f3a863b681f905d97fbff9ecd1aabd843564be4424af", func := "airline/airlinelaw04.PeriodCanonical", spec := "periodCanonical", unfollowed := true, recurses := true, apart := false }
def PeriodCanonicalSaid : Prop := periodCanonicalRow.holds Try.pinned (OpenSpec.ofChange periodCanonicalSpec)

/-- ITS FALSE NEIGHBOUR: 'it returns false'. Refute it at one input. -/
def periodCanonicalWrong : ChangeSpec := { name := "periodCanonical", fn := fun _ => fun
  | [d1, d2] => { results := [.lit (.bool false)], args := [d1, d2] }
  | _ => none }
def PeriodCanonicalWrongFalsely : Prop := periodCanonicalRow.holds Try.pinned (OpenSpec.ofChange periodCanonicalWrong)

/-- 'airlinelaw04.PeriodWeeks': WHATEVER THE INPUT: true; the input reads as it did. -/
def periodWeeksSpec : ChangeSpec := { name := "periodWeeks", fn := fun _ => fun
  | [d1, d2] => { results := [.lit (.bool true)], args := [d1, d2] }
  | _ => none }
def periodWeeksRow : OpenClaim := { program := "ytnfdmdhpbaifiaa", sum := "7584fc03845bc0711d26f3a863b681f905d97fbff9ecd1aabd843564be4424af", func := "airline/airlinelaw04.PeriodWeeks", spec := "periodWeeks", unfollowed := true, recurses := true, apart := false }
def PeriodWeeksSaid : Prop := periodWeeksRow.holds Try.pinned (OpenSpec.ofChange periodWeeksSpec)

/-- ITS FALSE NEIGHBOUR: 'it returns false'. Refute it at one input. -/
def periodWeeksWrong : ChangeSpec := { name := "periodWeeks", fn := fun _ => fun
  | [d1, d2] => { results := [.lit (.bool false)], args := [d1, d2] }
  | _ => none }
def PeriodWeeksWrongFalsely : Prop := periodWeeksRow.holds Try.pinned (OpenSpec.ofChange periodWeeksWrong)

/- THE SECOND FORM. 'bulk': how many values and letters a reading holds, each counted each time it is reached (what is shared counts as often as it is met; a slice's spare places count too). A statement '..UptoSaid' is the law's where the arguments, and the package variables that the reading takes, are together of bulk at most 1048576: NARROWER than '..Said'. Prove '..Said' where nothing that the law and all that it calls make is longer than what came in: it says more and counts as full. Else prove '..UptoSaid'. A law counts once. -/
mutual
def uptoBulk {H : Type} : DataW H → Nat
  | .lit (.string bytes) => bytes.length + 1
  | .lit _ => 1
  | .nil => 1
  | .ptr d => uptoBulk d + 1
  | .slice elems spare => uptoBulkAll elems + uptoBulkAll spare + 1
  | .agg parts => uptoBulkAll parts + 1
  | .iface _ d => uptoBulk d + 1
  | .map entries => uptoBulkEntries entries + 1
  | .held _ => 1
def uptoBulkAll {H : Type} : List (DataW H) → Nat
  | [] => 0
  | d :: r => uptoBulk d + uptoBulkAll r
def uptoBulkEntries {H : Type} : List (Lit × DataW H) → Nat
  | [] => 0
  | x :: r => uptoBulkEntry x + uptoBulkEntries r
def uptoBulkEntry {H : Type} : Lit × DataW H → Nat
  | (.string bytes, d) => bytes.length + uptoBulk d + 1
  | (_, d) => uptoBulk d + 1
 end
def uptoSmall : (H : Type) → List (DataW H) → Bool := fun _ ds => decide (uptoBulkAll ds ≤ 1048576)
def OpenSpec.upto (s : _root_.Go.ChangeSpec) : _root_.Go.OpenSpec := { _root_.Go.OpenSpec.ofChange s with cond := some uptoSmall }

/-- 'airlinelaw04.PeriodDays', WHERE WHAT IT READS IS OF BULK AT MOST 1048576: true; the input reads as it did. -/
def periodDaysUptoRow : OpenClaim := { program := "ytnfdmdhpbaifiaa", sum := "7584fc03845bc0711d26f3a863b681f905d97fbff9ecd1aabd843564be4424af", func := "airline/airlinelaw04.PeriodDays", spec := "periodDays", unfollowed := true, recurses := true, apart := false, narrowed := true }
def PeriodDaysUptoSaid : Prop := periodDaysUptoRow.holds Try.pinned (OpenSpec.upto periodDaysSpec)

/-- 'airlinelaw04.PeriodSets', WHERE WHAT IT READS IS OF BULK AT MOST 1048576: true; the input reads as it did. -/
def periodSetsUptoRow : OpenClaim := { program := "ytnfdmdhpbaifiaa", sum := "7584fc03845bc0711d26f3a863b681f905d97fbff9ecd1aabd843564be4424af", func := "airline/airlinelaw04.PeriodSets", spec := "periodSets", unfollowed := true, recurses := true, apart := false, narrowed := true }
def PeriodSetsUptoSaid : Prop := periodSetsUptoRow.holds Try.pinned (OpenSpec.upto periodSetsSpec)

/-- 'airlinelaw04.PeriodParts', WHERE WHAT IT READS IS OF BULK AT MOST 1048576: true; the input reads as it did. -/
def periodPartsUptoRow : OpenClaim := { program := "ytnfdmdhpbaifiaa", sum := "7584fc03845bc0711d26f3a863b681f905d97fbff9ecd1aabd843564be4424af", func := "airline/airlinelaw04.PeriodParts", spec := "periodParts", unfollowed := true, recurses := true, apart := false, narrowed := true }
def PeriodPartsUptoSaid : Prop := periodPartsUptoRow.holds Try.pinned (OpenSpec.upto periodPartsSpec)

/-- 'airlinelaw04.PeriodCanonical', WHERE WHAT IT READS IS OF BULK AT MOST 1048576: true; the input reads as it did. -/
def periodCanonicalUptoRow : OpenClaim := { program := "ytnfdmdhpbaifiaa", sum := "7584fc03845bc0711d26f3a863b681f905d97fbff9ecd1aabd843564be4424af", func := "airline/airlinelaw04.PeriodCanonical", spec := "periodCanonical", unfollowed := true, recurses := true, apart := false, narrowed := true }
def PeriodCanonicalUptoSaid : Prop := periodCanonicalUptoRow.holds Try.pinned (OpenSpec.upto periodCanonicalSpec)

/-- 'airlinelaw04.PeriodWeeks', WHERE WHAT IT READS IS OF BULK AT MOST 1048576: true; the input reads as it did. -/
def periodWeeksUptoRow : OpenClaim := { program := "ytnfdmdhpbaifiaa", sum := "7584fc03845bc0711d26f3a863b681f905d97fbff9ecd1aabd843564be4424af", func := "airline/airlinelaw04.PeriodWeeks", spec := "periodWeeks", unfollowed := true, recurses := true, apart := false, narrowed := true }
def PeriodWeeksUptoSaid : Prop := periodWeeksUptoRow.holds Try.pinned (OpenSpec.upto periodWeeksSpec)

end Rows
end Go.Proofs.Ytnfdmdhpbaifiaa
