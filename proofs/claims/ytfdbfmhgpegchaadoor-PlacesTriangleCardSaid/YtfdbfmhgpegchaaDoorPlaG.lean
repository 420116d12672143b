/- Walks of Check, where there is nothing to report, and of the law's awake. -/
import Derived.Test.YtfdbfmhgpegchaaDoorPlaE
import Derived.Test.YtfdbfmhgpegchaaDoorPlaF
import Derived.Test.YtfdbfmhgpegchaaDoorPlaV
import Derived.Test.YtfdbfmhgpegchaaDoorPlaD
namespace Go.Proofs.YtfdbfmhgpegchaaDoor
open Go.RowKit Go.Shelf
set_option linter.unusedSimpArgs false
set_option linter.unusedVariables false

set_option maxRecDepth 100000 in
set_option maxHeartbeats 4000000 in
theorem check0_any (p : PV) (pk : Nat → ByteArray × ByteArray) (w : World) (hp : OkP p) (hL : PlL w p) (hnoA : NoA p.l) (hno : ∀ k d, p.ds[k]? = some d → NoD p.l pk k d) :
    Calls Tryd.prog 11 #[encP p] w fun e w' => e = .returned nilS ∧ Below w.heap.size w w' := by
  have hb0 := bel_alloc w (.cells #[.slice p.A p.l.length p.ca, .slice p.D p.ds.length p.cd] placesT)
  have p0 := cells_new w #[.slice p.A p.l.length p.ca, .slice p.D p.ds.length p.cd] placesT 0
  have p1 := cells_new w #[.slice p.A p.l.length p.ca, .slice p.D p.ds.length p.cd] placesT 1
  simp only [List.getElem?_toArray, List.getElem?_cons_zero, List.getElem?_cons_succ] at p0 p1
  have hL5 := hL.more hb0
  go_enter Tryd.func11, Tryd.ntmps11
  go_wp2
  generalize w.alloc (.cells #[.slice p.A p.l.length p.ca, .slice p.D p.ds.length p.cd] placesT) = w5 at *
  have f0 := SW.cell p0
  have f1 := SW.cell p1
  have KA := Lib.hid (SW.call (w5 := w5) (fun W h => airports0_any p.A p.ca p.l W hp.la (hL5.air.more h) hp.air hnoA))
  have KD := Lib.hid (SW.call (w5 := w5) (fun W h => distances0_any p pk W hp (hL5.more h) hno))
  clear hL hL5 hnoA hno p0 p1
  have hNe : Nonempty (Wd (SW w5)) := ⟨⟨_, SW.drew _⟩⟩
  refine quietS (S := SW w5) (by kernel_rfl) (by kernel_rfl) (SW.drew _) ?_
  repeat (first | go_big_quiet_skip | (go_big_quiet_want; go_big_quiet_op; first | go_big_quiet_on | go_big_quiet_call ((first | (go_at_call 25; (with_reducible exact quiet_S (KA.out _ (Wd.ok _)))) | (go_at_call 26; (with_reducible exact quiet_S (KD.out _ (Wd.ok _))))))))
  refine wpQuiet_nil ?_
  rintro W ⟨⟨_, hW⟩, rfl⟩
  go_wp2
  go_ret
  exact ⟨rfl, hb0.trans (Below.mono hW hb0.size)⟩

def sPk (k : Nat) : ByteArray × ByteArray := if k = 0 then (xLON, xPAR) else (xPAR, xROM)
theorem sample_noA : NoA sL := by
  intro k a h
  have hk : k < 4 := (List.getElem?_eq_some_iff.1 h).1
  have : k = 0 ∨ k = 1 ∨ k = 2 ∨ k = 3 := by omega
  rcases this with rfl | rfl | rfl | rfl <;> (simp only [sL, List.getElem?_cons_zero, List.getElem?_cons_succ, Option.some.injEq] at h; subst h; refine ⟨by decide +kernel, by decide +kernel, ?_, by decide +kernel⟩; intro b hb)
  · simp [sL] at hb
  · have e : b = ⟨xLHR, xLON, xGB, 0, none, 0, []⟩ := by
      have : (sL.take 1).find? (fun b => decide (b.city = xLON)) = some ⟨xLHR, xLON, xGB, 0, none, 0, []⟩ := by simp [sL, xLON]
      exact (Option.some.inj (this.symm.trans hb)).symm
    rw [e]
  · have : (sL.take 2).find? (fun b => decide (b.city = xPAR)) = none := by simp [sL, xLON, xPAR]
    exact absurd (this.symm.trans hb) (by simp)
  · have : (sL.take 3).find? (fun b => decide (b.city = xROM)) = none := by simp [sL, xLON, xPAR, xROM]
    exact absurd (this.symm.trans hb) (by simp)
theorem sample_noD : ∀ (k : Nat) (d : Dst), sD[k]? = some d → NoD sL sPk k d := by
  intro k d h
  have hk : k < 2 := (List.getElem?_eq_some_iff.1 h).1
  have : k = 0 ∨ k = 1 := by omega
  rcases this with rfl | rfl <;> (simp only [sD, List.getElem?_cons_zero, List.getElem?_cons_succ, Option.some.injEq] at h; subst h)
  · exact ⟨fun W => by kernel_rfl, fun W => by kernel_rfl, Option.isSome_iff_exists.1 (by kernel_rfl), by decide +kernel, by decide +kernel, by decide +kernel, by decide +kernel, by decide +kernel⟩
  · exact ⟨fun W => by kernel_rfl, fun W => by kernel_rfl, Option.isSome_iff_exists.1 (by kernel_rfl), by decide +kernel, by decide +kernel, by decide +kernel, by decide +kernel, by decide +kernel⟩

end Go.Proofs.YtfdbfmhgpegchaaDoor
