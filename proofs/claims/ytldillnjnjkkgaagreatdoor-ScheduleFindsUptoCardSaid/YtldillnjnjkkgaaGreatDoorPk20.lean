/- Words and walks that the laws below ask: ClosSC. -/
import Derived.Test.YtldillnjnjkkgaaGreatDoorPk15
/- Closed facts on the program and its rows: what each law names, whom it follows. -/
namespace Go.Proofs.YtldillnjnjkkgaaGreatDoor

theorem scheduleFinds_c1 : Tryz.pinned.checked.prog.inPlace 5 = Rows.scheduleFindsUptoRow.inPlace := by kernel_rfl
theorem scheduleFinds_c2 : Tryz.pinned.checked.prog.unfollowed 5 = Rows.scheduleFindsUptoRow.unfollowed := by kernel_rfl
theorem scheduleFinds_c3 : Tryz.pinned.checked.prog.recurses 5 = Rows.scheduleFindsUptoRow.recurses := by kernel_rfl
theorem scheduleFinds_c4 : Tryz.pinned.checked.prog.varsNamed 5 = Rows.scheduleFindsUptoRow.named := by kernel_rfl

end Go.Proofs.YtldillnjnjkkgaaGreatDoor
