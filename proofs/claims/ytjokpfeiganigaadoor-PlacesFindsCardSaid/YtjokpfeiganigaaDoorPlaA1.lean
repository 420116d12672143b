/- Walk of the law's awake. -/
import Derived.Test.YtjokpfeiganigaaDoorPlaF
import Derived.Test.YtjokpfeiganigaaDoorPlaV
namespace Go.Proofs.YtjokpfeiganigaaDoor
open Go.RowKit Go.Shelf
set_option linter.unusedSimpArgs false
set_option linter.unusedVariables false

/-- the sample's distances -/
theorem sample_902 : disO (edgs sD) xLON xROM = some 902 := by
  have e : edgs sD = [(xLON, xPAR, 214), (xPAR, xLON, 214), (xPAR, xROM, 688), (xROM, xPAR, 688)] := by decide +kernel
  have h0 : Rel (edgs sD) xLON [(xLON, 0), (xPAR, 214), (xROM, 902)] := by
    have w1 : Wy (edgs sD) xLON xPAR (0 + 214) := Wy.here.on (by rw [e]; simp)
    have w2 : Wy (edgs sD) xLON xROM (0 + 214 + 688) := w1.on (by rw [e]; simp)
    refine ⟨fun c m hm => ?_, by simp, by decide +kernel⟩
    simp only [List.mem_cons, Prod.mk.injEq, List.not_mem_nil, or_false] at hm
    rcases hm with ⟨rfl, rfl⟩ | ⟨rfl, rfl⟩ | ⟨rfl, rfl⟩
    · exact .here
    · exact w1
    · exact w2
  have h := h0.done (fun b c w n he hb => by
    rw [e] at he
    simp only [List.mem_cons, Prod.mk.injEq, List.not_mem_nil, or_false] at he hb
    rcases he with ⟨rfl, rfl, rfl⟩ | ⟨rfl, rfl, rfl⟩ | ⟨rfl, rfl, rfl⟩ | ⟨rfl, rfl, rfl⟩
    · exact ⟨214, by simp, by omega⟩
    · exact ⟨0, by simp, by omega⟩
    · rcases hb with ⟨h, _⟩ | ⟨_, rfl⟩ | ⟨h, _⟩
      · exact absurd h (by decide +kernel)
      · exact ⟨902, by simp, by omega⟩
      · exact absurd h (by decide +kernel)
    · rcases hb with ⟨h, _⟩ | ⟨h, _⟩ | ⟨_, rfl⟩
      · exact absurd h (by decide +kernel)
      · exact absurd h (by decide +kernel)
      · exact ⟨214, by simp, by omega⟩) xROM
  rw [h]
  decide +kernel
theorem sample_214 : disO (edgs sD) xLON xPAR = some 214 := by
  have e : edgs sD = [(xLON, xPAR, 214), (xPAR, xLON, 214), (xPAR, xROM, 688), (xROM, xPAR, 688)] := by decide +kernel
  have h0 : Rel (edgs sD) xLON [(xLON, 0), (xPAR, 214), (xROM, 902)] := by
    have w1 : Wy (edgs sD) xLON xPAR (0 + 214) := Wy.here.on (by rw [e]; simp)
    have w2 : Wy (edgs sD) xLON xROM (0 + 214 + 688) := w1.on (by rw [e]; simp)
    refine ⟨fun c m hm => ?_, by simp, by decide +kernel⟩
    simp only [List.mem_cons, Prod.mk.injEq, List.not_mem_nil, or_false] at hm
    rcases hm with ⟨rfl, rfl⟩ | ⟨rfl, rfl⟩ | ⟨rfl, rfl⟩
    · exact .here
    · exact w1
    · exact w2
  have h := h0.done (fun b c w n he hb => by
    rw [e] at he
    simp only [List.mem_cons, Prod.mk.injEq, List.not_mem_nil, or_false] at he hb
    rcases he with ⟨rfl, rfl, rfl⟩ | ⟨rfl, rfl, rfl⟩ | ⟨rfl, rfl, rfl⟩ | ⟨rfl, rfl, rfl⟩
    · exact ⟨214, by simp, by omega⟩
    · exact ⟨0, by simp, by omega⟩
    · rcases hb with ⟨h, _⟩ | ⟨_, rfl⟩ | ⟨h, _⟩
      · exact absurd h (by decide +kernel)
      · exact ⟨902, by simp, by omega⟩
      · exact absurd h (by decide +kernel)
    · rcases hb with ⟨h, _⟩ | ⟨h, _⟩ | ⟨_, rfl⟩
      · exact absurd h (by decide +kernel)
      · exact absurd h (by decide +kernel)
      · exact ⟨214, by simp, by omega⟩) xPAR
  rw [h]
  decide +kernel
theorem cy_LGW : cityP sL xLGW = xLON := by decide +kernel
theorem cy_LHR : cityP sL xLHR = xLON := by decide +kernel
theorem cy_LON : cityP sL xLON = xLON := by decide +kernel
theorem cy_ROM : cityP sL xROM = xROM := by decide +kernel
theorem cy_PAR : cityP sL xPAR = xPAR := by decide +kernel
theorem cy_NYC : cityP sL xNYC = noB := by decide +kernel
theorem ld_ROM : landP sL xROM = xIT := by decide +kernel
theorem fd_CDG : findC sL xCDG = some ⟨xCDG, xPAR, xFR, 0, none, 0, []⟩ := by simp [findC, sL, eqS_iff, eqS, xCDG, xLHR, xLGW]
theorem ml_1 : milesP sL (edgs sD) xLGW xROM = (902, 0) := by
  unfold milesP
  rw [cy_LGW, cy_ROM, if_neg (by decide +kernel), sample_902]
  rfl
theorem ml_2 : milesP sL (edgs sD) xLON xNYC = (0, 14) := by
  unfold milesP
  rw [cy_LON, cy_NYC, if_pos (.inr rfl)]
theorem ml_3 : milesP sL (edgs sD) xROM xLON = (902, 0) := by
  unfold milesP
  rw [cy_LON, cy_ROM, if_neg (by decide +kernel), disO_sym, sample_902]
  rfl
theorem ml_4 : milesP sL (edgs sD) xLON xPAR = (214, 0) := by
  unfold milesP
  rw [cy_LON, cy_PAR, if_neg (by decide +kernel), sample_214]
  rfl
theorem wy_1 : wayP (milesP sL (edgs sD)) [xROM, xLON, xPAR] = (1116, 0) := by
  have e0 : [xROM, xLON, xPAR].getD 0 noB = xROM := rfl
  have e1 : [xROM, xLON, xPAR].getD (0 + 1) noB = xLON := rfl
  have e2 : [xROM, xLON, xPAR].getD (0 + 1 + 1) noB = xPAR := rfl
  show wayL _ _ 2 0 0 = _
  simp only [wayL, e0, e1, e2, ml_3, ml_4]
  rfl

end Go.Proofs.YtjokpfeiganigaaDoor
