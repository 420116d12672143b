/- Words and walks that the laws below ask: ClosSD. -/
import Derived.Test.YtldillnjnjkkgaaGreatDoorPk15
/- Closed facts on the program and its rows: what each law names, whom it follows. -/
namespace Go.Proofs.YtldillnjnjkkgaaGreatDoor

theorem scheduleDays_c1 : Tryz.pinned.checked.prog.inPlace 7 = Rows.scheduleDaysUptoRow.inPlace := by kernel_rfl
theorem scheduleDays_c2 : Tryz.pinned.checked.prog.unfollowed 7 = Rows.scheduleDaysUptoRow.unfollowed := by kernel_rfl
theorem scheduleDays_c3 : Tryz.pinned.checked.prog.recurses 7 = Rows.scheduleDaysUptoRow.recurses := by kernel_rfl
theorem scheduleDays_c4 : Tryz.pinned.checked.prog.varsNamed 7 = Rows.scheduleDaysUptoRow.named := by kernel_rfl

end Go.Proofs.YtldillnjnjkkgaaGreatDoor
