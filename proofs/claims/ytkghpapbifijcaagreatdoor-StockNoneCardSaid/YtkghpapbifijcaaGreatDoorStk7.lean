/- The methods of an inventory that New did not return. -/
import Derived.Test.YtkghpapbifijcaaGreatDoorStk6
namespace Go.Proofs.YtkghpapbifijcaaGreatDoor
open Go.RowKit Go.Shelf Go.Maps Go.MapKept
set_option linter.unusedSimpArgs false
set_option linter.unusedVariables false

set_option maxRecDepth 100000 in
set_option maxHeartbeats 2000000 in
theorem lplace_void (p : Option Addr) (i : Lid) (c : ByteArray) (w : World) (h : VoidS w p) : Calls Tryz.prog 58 #[.pointer p, aggD i, .string c] w fun e w' => e = .returned (.tuple #[.pointer none, .int .i64 0, .int .i64 0]) ∧ Below w.heap.size w w' := by
  have hb0 := bel_alloc w (.cells #[.string i.car, .int .i64 i.num, .int .i64 i.day, .string i.frm] lidT)
  have HBA := Lib.hid hb0
  obtain ⟨l0, l1, l2, l3⟩ := lid_new w i
  have K := Lib.hid (find_void p i _ (h.more HBA.out))
  clear h hb0
  go_enter Tryz.func58, Tryz.ntmps58
  go_upto_region 1 with fail
  generalize (w.alloc (.cells #[.string i.car, .int .i64 i.num, .int .i64 i.day, .string i.frm] lidT)) = w5 at *
  go_wp2_with (go_at_call 56; refine K.out.mono ?_; rintro e w6 ⟨rfl, hb6⟩)
  refine bodyPost_ret (results_tmp3 rfl _ _ _) rfl ⟨rfl, HBA.out.trans (hb6.mono HBA.out.size)⟩
set_option maxRecDepth 100000 in
set_option maxHeartbeats 2000000 in
theorem lopen_void (p : Option Addr) (i : Lid) (c : ByteArray) (w : World) (h : VoidS w p) : Calls Tryz.prog 35 #[.pointer p, aggD i, .string c] w fun e w' => e = .returned (.int .i64 1) ∧ Below w.heap.size w w' := by
  have hb0 := bel_alloc w (.cells #[.string i.car, .int .i64 i.num, .int .i64 i.day, .string i.frm] lidT)
  have HBA := Lib.hid hb0
  obtain ⟨l0, l1, l2, l3⟩ := lid_new w i
  have K := Lib.hid (isVoid_yes p _ (h.more HBA.out))
  clear h hb0
  go_enter Tryz.func35, Tryz.ntmps35
  go_upto_region 1 with fail
  generalize (w.alloc (.cells #[.string i.car, .int .i64 i.num, .int .i64 i.day, .string i.frm] lidT)) = w5 at *
  go_wp2_with (go_at_call 67; refine K.out.mono ?_; rintro e w6 ⟨rfl, rfl⟩)
  go_ret
  exact ⟨rfl, HBA.out⟩
set_option maxRecDepth 100000 in
set_option maxHeartbeats 2000000 in
theorem lclose_void (p : Option Addr) (i : Lid) (w : World) (h : VoidS w p) : Calls Tryz.prog 36 #[.pointer p, aggD i] w fun e w' => e = .returned (.int .i64 1) ∧ Below w.heap.size w w' := by
  have hb0 := bel_alloc w (.cells #[.string i.car, .int .i64 i.num, .int .i64 i.day, .string i.frm] lidT)
  have HBA := Lib.hid hb0
  obtain ⟨l0, l1, l2, l3⟩ := lid_new w i
  have K := Lib.hid (isVoid_yes p _ (h.more HBA.out))
  clear h hb0
  go_enter Tryz.func36, Tryz.ntmps36
  go_upto_region 1 with fail
  generalize (w.alloc (.cells #[.string i.car, .int .i64 i.num, .int .i64 i.day, .string i.frm] lidT)) = w5 at *
  go_wp2_with (go_at_call 67; refine K.out.mono ?_; rintro e w6 ⟨rfl, rfl⟩)
  go_ret
  exact ⟨rfl, HBA.out⟩
set_option maxRecDepth 100000 in
set_option maxHeartbeats 2000000 in
theorem lresize_void (p : Option Addr) (i : Lid) (c : ByteArray) (w : World) (h : VoidS w p) : Calls Tryz.prog 29 #[.pointer p, aggD i, .string c] w fun e w' => e = .returned (.int .i64 1) ∧ Below w.heap.size w w' := by
  have hb0 := bel_alloc w (.cells #[.string i.car, .int .i64 i.num, .int .i64 i.day, .string i.frm] lidT)
  have HBA := Lib.hid hb0
  obtain ⟨l0, l1, l2, l3⟩ := lid_new w i
  have K := Lib.hid (isVoid_yes p _ (h.more HBA.out))
  clear h hb0
  go_enter Tryz.func29, Tryz.ntmps29
  go_upto_region 1 with fail
  generalize (w.alloc (.cells #[.string i.car, .int .i64 i.num, .int .i64 i.day, .string i.frm] lidT)) = w5 at *
  go_wp2_with (go_at_call 67; refine K.out.mono ?_; rintro e w6 ⟨rfl, rfl⟩)
  go_ret
  exact ⟨rfl, HBA.out⟩
set_option maxRecDepth 100000 in
set_option maxHeartbeats 2000000 in
theorem equip_void (p : Option Addr) (i : Lid) (w : World) (h : VoidS w p) : Calls Tryz.prog 28 #[.pointer p, aggD i] w fun e w' => e = .returned (.tuple #[.string noB, .bool false]) ∧ Below w.heap.size w w' := by
  have hb0 := bel_alloc w (.cells #[.string i.car, .int .i64 i.num, .int .i64 i.day, .string i.frm] lidT)
  have HBA := Lib.hid hb0
  obtain ⟨l0, l1, l2, l3⟩ := lid_new w i
  have K := Lib.hid (find_void p i _ (h.more HBA.out))
  clear h hb0
  go_enter Tryz.func28, Tryz.ntmps28
  go_upto_region 1 with fail
  generalize (w.alloc (.cells #[.string i.car, .int .i64 i.num, .int .i64 i.day, .string i.frm] lidT)) = w5 at *
  go_wp2_with (go_at_call 56; refine K.out.mono ?_; rintro e w6 ⟨rfl, hb6⟩)
  refine bodyPost_ret (results_tmp2 rfl _ _ _) rfl ⟨rfl, HBA.out.trans (hb6.mono HBA.out.size)⟩
set_option maxRecDepth 100000 in
set_option maxHeartbeats 2000000 in
theorem lexcess_void (p : Option Addr) (i : Lid) (w : World) (h : VoidS w p) : Calls Tryz.prog 17 #[.pointer p, aggD i] w fun e w' => e = .returned (.int .i64 0) ∧ Below w.heap.size w w' := by
  have hb0 := bel_alloc w (.cells #[.string i.car, .int .i64 i.num, .int .i64 i.day, .string i.frm] lidT)
  have HBA := Lib.hid hb0
  obtain ⟨l0, l1, l2, l3⟩ := lid_new w i
  have K := Lib.hid (find_void p i _ (h.more HBA.out))
  clear h hb0
  go_enter Tryz.func17, Tryz.ntmps17
  go_upto_region 1 with fail
  generalize (w.alloc (.cells #[.string i.car, .int .i64 i.num, .int .i64 i.day, .string i.frm] lidT)) = w5 at *
  go_wp2_with (go_at_call 56; refine K.out.mono ?_; rintro e w6 ⟨rfl, hb6⟩)
  go_ret
  exact ⟨rfl, HBA.out.trans (hb6.mono HBA.out.size)⟩
set_option maxRecDepth 100000 in
set_option maxHeartbeats 2000000 in
theorem counts_void (p : Option Addr) (i : Lid) (w : World) (h : VoidS w p) : Calls Tryz.prog 26 #[.pointer p, aggD i] w fun e w' => e = .returned (.slice none 0 0) ∧ Below w.heap.size w w' := by
  have hb0 := bel_alloc w (.cells #[.string i.car, .int .i64 i.num, .int .i64 i.day, .string i.frm] lidT)
  have HBA := Lib.hid hb0
  obtain ⟨l0, l1, l2, l3⟩ := lid_new w i
  have K := Lib.hid (find_void p i _ (h.more HBA.out))
  clear h hb0
  go_enter Tryz.func26, Tryz.ntmps26
  go_upto_region 1 with fail
  generalize (w.alloc (.cells #[.string i.car, .int .i64 i.num, .int .i64 i.day, .string i.frm] lidT)) = w5 at *
  go_wp2_with (go_at_call 56; refine K.out.mono ?_; rintro e w6 ⟨rfl, hb6⟩)
  go_ret
  exact ⟨rfl, HBA.out.trans (hb6.mono HBA.out.size)⟩
set_option maxRecDepth 100000 in
set_option maxHeartbeats 2000000 in
theorem lleft_void (p : Option Addr) (i : Lid) (c : ByteArray) (w : World) (h : VoidS w p) : Calls Tryz.prog 21 #[.pointer p, aggD i, .string c] w fun e w' => e = .returned (.int .i64 0) ∧ Below w.heap.size w w' := by
  have hb0 := bel_alloc w (.cells #[.string i.car, .int .i64 i.num, .int .i64 i.day, .string i.frm] lidT)
  have HBA := Lib.hid hb0
  obtain ⟨l0, l1, l2, l3⟩ := lid_new w i
  have K := Lib.hid (lplace_void p i c _ (h.more HBA.out))
  clear h hb0
  go_enter Tryz.func21, Tryz.ntmps21
  go_upto_region 1 with fail
  generalize (w.alloc (.cells #[.string i.car, .int .i64 i.num, .int .i64 i.day, .string i.frm] lidT)) = w5 at *
  go_wp2_with (go_at_call 58; refine K.out.mono ?_; rintro e w6 ⟨rfl, hb6⟩)
  go_ret
  exact ⟨rfl, HBA.out.trans (hb6.mono HBA.out.size)⟩
set_option maxRecDepth 100000 in
set_option maxHeartbeats 2000000 in
theorem free_void (p : Option Addr) (i : Lid) (c : ByteArray) (w : World) (h : VoidS w p) : Calls Tryz.prog 38 #[.pointer p, aggD i, .string c] w fun e w' => e = .returned (.int .i64 0) ∧ Below w.heap.size w w' := by
  have hb0 := bel_alloc w (.cells #[.string i.car, .int .i64 i.num, .int .i64 i.day, .string i.frm] lidT)
  have HBA := Lib.hid hb0
  obtain ⟨l0, l1, l2, l3⟩ := lid_new w i
  have K := Lib.hid (lplace_void p i c _ (h.more HBA.out))
  clear h hb0
  go_enter Tryz.func38, Tryz.ntmps38
  go_upto_region 1 with fail
  generalize (w.alloc (.cells #[.string i.car, .int .i64 i.num, .int .i64 i.day, .string i.frm] lidT)) = w5 at *
  go_wp2_with (go_at_call 58; refine K.out.mono ?_; rintro e w6 ⟨rfl, hb6⟩)
  go_ret
  exact ⟨rfl, HBA.out.trans (hb6.mono HBA.out.size)⟩
set_option maxRecDepth 100000 in
set_option maxHeartbeats 2000000 in
theorem lsell_void (p : Option Addr) (v : Value) (c : ByteArray) (m : Int) (w : World) (h : VoidS w p) : Calls Tryz.prog 23 #[.pointer p, v, .string c, .int .i64 m] w fun e w' => e = .returned (.int .i64 1) ∧ Below w.heap.size w w' := by
  have hb0 := bel_alloc w (.cells #[.pointer p] spT)
  have hb1 := bel_alloc (w.alloc (.cells #[.pointer p] spT)) (.cells #[.string c] 9)
  have hc1 := hb0.trans (hb1.mono hb0.size)
  have hb2 := bel_alloc ((w.alloc (.cells #[.pointer p] spT)).alloc (.cells #[.string c] 9)) (.cells #[.int .i64 m] 3)
  have hc2 := hc1.trans (hb2.mono hc1.size)
  have HBA := Lib.hid hc2
  have z0 := bel_cell hb2 (bel_cell hb1 (box1 w (.pointer p) spT))
  have z1 := bel_cell hb2 (box1 (w.alloc (.cells #[.pointer p] spT)) (.string c) 9)
  have z2 := box1 ((w.alloc (.cells #[.pointer p] spT)).alloc (.cells #[.string c] 9)) (.int .i64 m) 3
  simp only [World.size_alloc] at z1 z2
  have K := Lib.hid (lcheck_void p v m _ (h.more HBA.out))
  clear h hb0 hb1 hb2 hc1 hc2
  go_enter Tryz.func23, Tryz.ntmps23
  go_upto_region 1 with fail
  generalize (((w.alloc (.cells #[.pointer p] spT)).alloc (.cells #[.string c] 9)).alloc (.cells #[.int .i64 m] 3)) = w5 at *
  go_wp2_with (go_at_call 60; refine K.out.mono ?_; rintro e w6 ⟨rfl, hb6⟩)
  go_ret
  exact ⟨rfl, HBA.out.trans (hb6.mono HBA.out.size)⟩
set_option maxRecDepth 100000 in
set_option maxHeartbeats 2000000 in
theorem lcanc_void (p : Option Addr) (v : Value) (c : ByteArray) (m : Int) (w : World) (h : VoidS w p) : Calls Tryz.prog 37 #[.pointer p, v, .string c, .int .i64 m] w fun e w' => e = .returned (.int .i64 1) ∧ Below w.heap.size w w' := by
  have hb0 := bel_alloc w (.cells #[.pointer p] spT)
  have hb1 := bel_alloc (w.alloc (.cells #[.pointer p] spT)) (.cells #[.string c] 9)
  have hc1 := hb0.trans (hb1.mono hb0.size)
  have hb2 := bel_alloc ((w.alloc (.cells #[.pointer p] spT)).alloc (.cells #[.string c] 9)) (.cells #[.int .i64 m] 3)
  have hc2 := hc1.trans (hb2.mono hc1.size)
  have HBA := Lib.hid hc2
  have z0 := bel_cell hb2 (bel_cell hb1 (box1 w (.pointer p) spT))
  have z1 := bel_cell hb2 (box1 (w.alloc (.cells #[.pointer p] spT)) (.string c) 9)
  have z2 := box1 ((w.alloc (.cells #[.pointer p] spT)).alloc (.cells #[.string c] 9)) (.int .i64 m) 3
  simp only [World.size_alloc] at z1 z2
  have K := Lib.hid (lcheck_void p v m _ (h.more HBA.out))
  clear h hb0 hb1 hb2 hc1 hc2
  go_enter Tryz.func37, Tryz.ntmps37
  go_upto_region 1 with fail
  generalize (((w.alloc (.cells #[.pointer p] spT)).alloc (.cells #[.string c] 9)).alloc (.cells #[.int .i64 m] 3)) = w5 at *
  go_wp2_with (go_at_call 60; refine K.out.mono ?_; rintro e w6 ⟨rfl, hb6⟩)
  go_ret
  exact ⟨rfl, HBA.out.trans (hb6.mono HBA.out.size)⟩
set_option maxRecDepth 100000 in
set_option maxHeartbeats 2000000 in
theorem copy_void (p : Option Addr) (w : World) (h : VoidS w p) : Calls Tryz.prog 24 #[.pointer p] w fun e w' => e = .returned (.pointer none) ∧ Below w.heap.size w w' := by
  have HBA := Lib.hid (Below.refl w.heap.size w)
  have K := Lib.hid (isVoid_yes p _ (h.more HBA.out))
  clear h
  go_enter Tryz.func24, Tryz.ntmps24
  go_wp2_with (go_at_call 67; refine K.out.mono ?_; rintro e w6 ⟨rfl, rfl⟩)
  go_ret
  exact ⟨rfl, HBA.out⟩
end Go.Proofs.YtkghpapbifijcaaGreatDoor
