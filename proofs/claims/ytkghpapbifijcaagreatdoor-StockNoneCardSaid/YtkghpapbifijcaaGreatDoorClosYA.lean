/- Closed facts on the program and its rows: what each law names, whom it follows. -/
import Derived.Test.YtkghpapbifijcaaGreatDoorFrameY
namespace Go.Proofs.YtkghpapbifijcaaGreatDoor

theorem stockNone_c1 : Tryz.pinned.checked.prog.inPlace 9 = Rows.stockNoneRow.inPlace := by kernel_rfl
theorem stockNone_c2 : Tryz.pinned.checked.prog.unfollowed 9 = Rows.stockNoneRow.unfollowed := by kernel_rfl
theorem stockNone_c3 : Tryz.pinned.checked.prog.recurses 9 = Rows.stockNoneRow.recurses := by kernel_rfl
theorem stockNone_c4 : Tryz.pinned.checked.prog.varsNamed 9 = Rows.stockNoneRow.named := by kernel_rfl

end Go.Proofs.YtkghpapbifijcaaGreatDoor
