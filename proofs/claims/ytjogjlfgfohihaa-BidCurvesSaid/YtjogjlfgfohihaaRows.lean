/-
  No cell of these rows narrows 'for every input' (looked for: loops, veiled, ifaces, maps, wideKeys, modest, calm, conditions, laid).
  DERIVED. THE GIVEN ROWS OF THIS SEAT. 5 by the template 'for every input the law returns true; each argument reads behind the call as it read before'; 0 by the template 'total and deterministic' (their statements: YtjogjlfgfohihaaTotals.lean).
  GIVEN WITH THE SEED: the statements are not yours to turn. If you find one false, say at which input.
  Laid BY PROGRAM, IN A SANDBOX (cutbox-rows.mjs): the forced cells as the released guide's own fill.sh prints them over the translation c4800f66ae9c70c4… (all of the seat's roots in one cut). By AI agents, Wed Nov 11 2026. No macro, syntax, notation, axiom, sorry.
-/
import Derived.Test.YtjogjlfgfohihaaChecked
import GoSem.Claim
import GoSem.ClaimJoined
import GoSem.ClaimMapViews
import Derived.JoinedTies
import Derived.KernelRfl
namespace Go.Proofs.Ytjogjlfgfohihaa
/- THE CELL 'sum', in the pinned program and in every row, IS THE sha256 OF THE DUMP (.gsa) THAT YtjogjlfgfohihaaProg.lean LOADS. Nothing in Lean hashes anything: it is a label: what it is worth is what the hold of that sum in a sandbox is worth. -/
noncomputable def Try.pinned : Pinned := { name := "ytjogjlfgfohihaa", sum := "c4800f66ae9c70c44978853a07c7a2f535a3e5b5f4edef6c93c2892400a5e91e", checked := Try.checked }
namespace Rows
def none {H : Type} : Left H := { results := [], args := [] }

/-- 'airlinelaw14.BidCurves': WHATEVER THE INPUT: true; the input reads as it did. -/
def bidCurvesSpec : ChangeSpec := { name := "bidCurves", fn := fun _ => fun
  | [d1, d2, d3] => { results := [.lit (.bool true)], args := [d1, d2, d3] }
  | _ => none }
def bidCurvesRow : OpenClaim := { program := "ytjogjlfgfohihaa", sum := "c4800f66ae9c70c44978853a07c7a2f535a3e5b5f4edef6c93c2892400a5e91e", func := "airline/airlinelaw14.BidCurves", spec := "bidCurves", unfollowed := true, recurses := true, apart := false }
def BidCurvesSaid : Prop := bidCurvesRow.holds Try.pinned (OpenSpec.ofChange bidCurvesSpec)

/-- ITS FALSE NEIGHBOUR: 'it returns false'. Refute it at one input. -/
def bidCurvesWrong : ChangeSpec := { name := "bidCurves", fn := fun _ => fun
  | [d1, d2, d3] => { results := [.lit (.bool false)], args := [d1, d2, d3] }
  | _ => none }
def BidCurvesWrongFalsely : Prop := bidCurvesRow.holds Try.pinned (OpenSpec.ofChange bidCurvesWrong)

/-- 'airlinelaw14.BidTells': WHATEVER THE INPUT: true; the input reads as it did. -/
def bidTellsSpec : ChangeSpec := { name := "bidTells", fn := fun _ => fun
  | [d1, d2] => { results := [.lit (.bool true)], args := [d1, d2] }
  | _ => none }
def bidTellsRow : OpenClaim := { program := "ytjogjlfgfohihaa", sum := "c4800f66ae9c70c44978853a07c7a2f535a3e5b5f4edef6c93c2892400a5e91e", func := "airline/airlinelaw14.BidTells", spec := "bidTells", unfollowed := true, recurses := true, apart := false }
def BidTellsSaid : Prop := bidTellsRow.holds Try.pinned (OpenSpec.ofChange bidTellsSpec)

/-- ITS FALSE NEIGHBOUR: 'it returns false'. Refute it at one input. -/
def bidTellsWrong : ChangeSpec := { name := "bidTells", fn := fun _ => fun
  | [d1, d2] => { results := [.lit (.bool false)], args := [d1, d2] }
  | _ => none }
def BidTellsWrongFalsely : Prop := bidTellsRow.holds Try.pinned (OpenSpec.ofChange bidTellsWrong)

/-- 'airlinelaw14.BidSeats': WHATEVER THE INPUT: true; the input reads as it did. -/
def bidSeatsSpec : ChangeSpec := { name := "bidSeats", fn := fun _ => fun
  | [d1, d2, d3] => { results := [.lit (.bool true)], args := [d1, d2, d3] }
  | _ => none }
def bidSeatsRow : OpenClaim := { program := "ytjogjlfgfohihaa", sum := "c4800f66ae9c70c44978853a07c7a2f535a3e5b5f4edef6c93c2892400a5e91e", func := "airline/airlinelaw14.BidSeats", spec := "bidSeats", unfollowed := true, recurses := true, apart := false }
def BidSeatsSaid : Prop := bidSeatsRow.holds Try.pinned (OpenSpec.ofChange bidSeatsSpec)

/-- ITS FALSE NEIGHBOUR: 'it returns false'. Refute it at one input. -/
def bidSeatsWrong : ChangeSpec := { name := "bidSeats", fn := fun _ => fun
  | [d1, d2, d3] => { results := [.lit (.bool false)], args := [d1, d2, d3] }
  | _ => none }
def BidSeatsWrongFalsely : Prop := bidSeatsRow.holds Try.pinned (OpenSpec.ofChange bidSeatsWrong)

/-- 'airlinelaw14.BidRises': WHATEVER THE INPUT: true; the input reads as it did. -/
def bidRisesSpec : ChangeSpec := { name := "bidRises", fn := fun _ => fun
  | [d1, d2, d3] => { results := [.lit (.bool true)], args := [d1, d2, d3] }
  | _ => none }
def bidRisesRow : OpenClaim := { program := "ytjogjlfgfohihaa", sum := "c4800f66ae9c70c44978853a07c7a2f535a3e5b5f4edef6c93c2892400a5e91e", func := "airline/airlinelaw14.BidRises", spec := "bidRises", unfollowed := true, recurses := true, apart := false }
def BidRisesSaid : Prop := bidRisesRow.holds Try.pinned (OpenSpec.ofChange bidRisesSpec)

/-- ITS FALSE NEIGHBOUR: 'it returns false'. Refute it at one input. -/
def bidRisesWrong : ChangeSpec := { name := "bidRises", fn := fun _ => fun
  | [d1, d2, d3] => { results := [.lit (.bool false)], args := [d1, d2, d3] }
  | _ => none }
def BidRisesWrongFalsely : Prop := bidRisesRow.holds Try.pinned (OpenSpec.ofChange bidRisesWrong)

/-- 'airlinelaw14.BidMore': WHATEVER THE INPUT: true; the input reads as it did. -/
def bidMoreSpec : ChangeSpec := { name := "bidMore", fn := fun _ => fun
  | [d1, d2, d3] => { results := [.lit (.bool true)], args := [d1, d2, d3] }
  | _ => none }
def bidMoreRow : OpenClaim := { program := "ytjogjlfgfohihaa", sum := "c4800f66ae9c70c44978853a07c7a2f535a3e5b5f4edef6c93c2892400a5e91e", func := "airline/airlinelaw14.BidMore", spec := "bidMore", unfollowed := true, recurses := true, apart := false }
def BidMoreSaid : Prop := bidMoreRow.holds Try.pinned (OpenSpec.ofChange bidMoreSpec)

/-- ITS FALSE NEIGHBOUR: 'it returns false'. Refute it at one input. -/
def bidMoreWrong : ChangeSpec := { name := "bidMore", fn := fun _ => fun
  | [d1, d2, d3] => { results := [.lit (.bool false)], args := [d1, d2, d3] }
  | _ => none }
def BidMoreWrongFalsely : Prop := bidMoreRow.holds Try.pinned (OpenSpec.ofChange bidMoreWrong)

/- THE SECOND FORM. 'bulk': how many values and letters a reading holds, each counted each time it is reached (what is shared counts as often as it is met; a slice's spare places count too). A statement '..UptoSaid' is the law's where the arguments, and the package variables that the reading takes, are together of bulk at most 1048576: NARROWER than '..Said'. Prove '..Said' where nothing that the law and all that it calls make is longer than what came in: it says more and counts as full. Else prove '..UptoSaid'. A law counts once. -/
mutual
def uptoBulk {H : Type} : DataW H → Nat
  | .lit (.string bytes) => bytes.length + 1
  | .lit _ => 1
  | .nil => 1
  | .ptr d => uptoBulk d + 1
  | .slice elems spare => uptoBulkAll elems + uptoBulkAll spare + 1
  | .agg parts => uptoBulkAll parts + 1
  | .iface _ d => uptoBulk d + 1
  | .map entries => uptoBulkEntries entries + 1
  | .held _ => 1
def uptoBulkAll {H : Type} : List (DataW H) → Nat
  | [] => 0
  | d :: r => uptoBulk d + uptoBulkAll r
def uptoBulkEntries {H : Type} : List (Lit × DataW H) → Nat
  | [] => 0
  | x :: r => uptoBulkEntry x + uptoBulkEntries r
def uptoBulkEntry {H : Type} : Lit × DataW H → Nat
  | (.string bytes, d) => bytes.length + uptoBulk d + 1
  | (_, d) => uptoBulk d + 1
 end
def uptoSmall : (H : Type) → List (DataW H) → Bool := fun _ ds => decide (uptoBulkAll ds ≤ 1048576)
def OpenSpec.upto (s : _root_.Go.ChangeSpec) : _root_.Go.OpenSpec := { _root_.Go.OpenSpec.ofChange s with cond := some uptoSmall }

/-- 'airlinelaw14.BidCurves', WHERE WHAT IT READS IS OF BULK AT MOST 1048576: true; the input reads as it did. -/
def bidCurvesUptoRow : OpenClaim := { program := "ytjogjlfgfohihaa", sum := "c4800f66ae9c70c44978853a07c7a2f535a3e5b5f4edef6c93c2892400a5e91e", func := "airline/airlinelaw14.BidCurves", spec := "bidCurves", unfollowed := true, recurses := true, apart := false, narrowed := true }
def BidCurvesUptoSaid : Prop := bidCurvesUptoRow.holds Try.pinned (OpenSpec.upto bidCurvesSpec)

/-- 'airlinelaw14.BidTells', WHERE WHAT IT READS IS OF BULK AT MOST 1048576: true; the input reads as it did. -/
def bidTellsUptoRow : OpenClaim := { program := "ytjogjlfgfohihaa", sum := "c4800f66ae9c70c44978853a07c7a2f535a3e5b5f4edef6c93c2892400a5e91e", func := "airline/airlinelaw14.BidTells", spec := "bidTells", unfollowed := true, recurses := true, apart := false, narrowed := true }
def BidTellsUptoSaid : Prop := bidTellsUptoRow.holds Try.pinned (OpenSpec.upto bidTellsSpec)

/-- 'airlinelaw14.BidSeats', WHERE WHAT IT READS IS OF BULK AT MOST 1048576: true; the input reads as it did. -/
def bidSeatsUptoRow : OpenClaim := { program := "ytjogjlfgfohihaa", sum := "c4800f66ae9c70c44978853a07c7a2f535a3e5b5f4edef6c93c2892400a5e91e", func := "airline/airlinelaw14.BidSeats", spec := "bidSeats", unfollowed := true, recurses := true, apart := false, narrowed := true }
def BidSeatsUptoSaid : Prop := bidSeatsUptoRow.holds Try.pinned (OpenSpec.upto bidSeatsSpec)

/-- 'airlinelaw14.BidRises', WHERE WHAT IT READS IS OF BULK AT MOST 1048576: true; the input reads as it did. -/
def bidRisesUptoRow : OpenClaim := { program := "ytjogjlfgfohihaa", sum := "c4800f66ae9c70c44978853a07c7a2f535a3e5b5f4edef6c93c2892400a5e91e", func := "airline/airlinelaw14.BidRises", spec := "bidRises", unfollowed := true, recurses := true, apart := false, narrowed := true }
def BidRisesUptoSaid : Prop := bidRisesUptoRow.holds Try.pinned (OpenSpec.upto bidRisesSpec)

/-- 'airlinelaw14.BidMore', WHERE WHAT IT READS IS OF BULK AT MOST 1048576: true; the input reads as it did. -/
def bidMoreUptoRow : OpenClaim := { program := "ytjogjlfgfohihaa", sum := "c4800f66ae9c70c44978853a07c7a2f535a3e5b5f4edef6c93c2892400a5e91e", func := "airline/airlinelaw14.BidMore", spec := "bidMore", unfollowed := true, recurses := true, apart := false, narrowed := true }
def BidMoreUptoSaid : Prop := bidMoreUptoRow.holds Try.pinned (OpenSpec.upto bidMoreSpec)

end Rows
end Go.Proofs.Ytjogjlfgfohihaa
