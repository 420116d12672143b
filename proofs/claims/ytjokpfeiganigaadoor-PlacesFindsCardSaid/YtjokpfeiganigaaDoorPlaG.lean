/- Walk of Check of places. -/
import Derived.Test.YtjokpfeiganigaaDoorPlaE
import Derived.Test.YtjokpfeiganigaaDoorOwnS
import Derived.Test.YtjokpfeiganigaaDoorPlaF
namespace Go.Proofs.YtjokpfeiganigaaDoor
open Go.RowKit Go.Shelf
set_option linter.unusedSimpArgs false
set_option linter.unusedVariables false

set_option maxRecDepth 100000 in
set_option maxHeartbeats 4000000 in
theorem check6_any (p : PV) (w : World) (hp : OkP p) (hL : PlL w p) :
    Calls Tryd.prog 13 #[encP p] w fun e w' => ∃ v', e = .returned v' ∧ FOwn w.heap.size w' v' (chkP p) ∧ Below w.heap.size w w' := by
  have hb0 := bel_alloc w (.cells #[.slice p.A p.l.length p.ca, .slice p.D p.ds.length p.cd] placesT)
  have p0 := cells_new w #[.slice p.A p.l.length p.ca, .slice p.D p.ds.length p.cd] placesT 0
  have p1 := cells_new w #[.slice p.A p.l.length p.ca, .slice p.D p.ds.length p.cd] placesT 1
  simp only [List.getElem?_toArray, List.getElem?_cons_zero, List.getElem?_cons_succ] at p0 p1
  have hL5 := hL.more hb0
  go_enter Tryd.func13, Tryd.ntmps13
  go_wp2
  generalize w.alloc (.cells #[.slice p.A p.l.length p.ca, .slice p.D p.ds.length p.cd] placesT) = w5 at *
  have f0 := bel_get p0
  have f1 := bel_get p1
  have KA := Lib.hid (fun W (h : SW w5 W) => airports_any p.A p.ca p.l W hp.la (hL5.air.more h) hp.air)
  have KD := Lib.hid (fun W (h : SW w5 W) => distances_any p W hp (hL5.more h))
  have HC : Hid (chkP p = airF p.l p.l.length ++ dstF p.l p.ds p.ds.length) := Lib.hid rfl
  have HLn : Hid ((airF p.l p.l.length).length + (dstF p.l p.ds p.ds.length).length ≤ 100000000) := Lib.hid (by
    have h1 := airF_le p.l p.l.length
    have h2 := dstF_le p.l p.ds p.ds.length
    have := hp.la
    have := hp.ld
    omega)
  clear hL hL5 p0 p1
  have hS : (SW w5) _ := SW.drew w5
  refine wp_region_held_drew (S := SW w5) (by kernel_rfl) hS (fun _ => ?_)
  refine wpAnyH_take (i := 0) (v := ?vG0) rfl (by kernel_rfl) (by kernel_rfl) (by kernel_rfl) (fun _ _ _ h => h) (Or.inl ⟨by rfl, ?hyG0⟩) hS ?restG0
  case hyG0 =>
    intro w hSw
    first | (go_simp; done) | (go_simp; with_reducible rfl)
  try simp only [Act.put, List.setIfInBounds_toArray, List.set_cons_zero, List.set_cons_succ]
  refine wpAnyH_take (i := 1) (v := ?vG1) rfl (by kernel_rfl) (by kernel_rfl) (by kernel_rfl) (fun _ _ _ h => h) (Or.inl ⟨by rfl, ?hyG1⟩) hS ?restG1
  case hyG1 =>
    intro w hSw
    have k0 := f0 w hSw; have k1 := f1 w hSw
    first | (go_simp; done) | (go_simp; with_reducible rfl)
  try simp only [Act.put, List.setIfInBounds_toArray, List.set_cons_zero, List.set_cons_succ]
  refine wpAnyH_take (i := 3) (v := ?vG3) rfl (by kernel_rfl) (by kernel_rfl) (by kernel_rfl) (fun _ _ _ h => h) (Or.inl ⟨by rfl, ?hyG3⟩) hS ?restG3
  case hyG3 =>
    intro w hSw
    have k0 := f0 w hSw; have k1 := f1 w hSw
    first | (go_simp; done) | (go_simp; with_reducible rfl)
  try simp only [Act.put, List.setIfInBounds_toArray, List.set_cons_zero, List.set_cons_succ]
  refine wpAnyH_ready (rs := [2]) (by kernel_rfl) (by simp) ?_
  refine AllReadyH.cons rfl (fun K hK => ?_) AllReadyH.nil
  go_simp
  go_wp2_with ((go_at_call 33; refine (KA.out _ hS).mono ?_; rintro e w1 ⟨v1, rfl, hO1, hb1⟩; have hB1 := hS.size; have hS := Below.trans hS (Below.mono hb1 hS.size)))
  refine hK.out _ _ hS (fun _ => ?_)
  clear hK K
  refine wpAnyH_ready (rs := [4]) (by kernel_rfl) (by simp) ?_
  refine AllReadyH.cons rfl (fun K hK => ?_) AllReadyH.nil
  go_simp
  go_wp2_with ((go_at_call 34; refine (KD.out _ hS).mono ?_; rintro e w2 ⟨v2, rfl, hO2, hb2⟩; have hO1 := hO1.more hb2; have hS := Below.trans hS (Below.mono hb2 hS.size)))
  refine hK.out _ _ hS (fun _ => ?_)
  clear hK K
  refine wpAnyH_ready (rs := [5]) (by kernel_rfl) (by simp) ?_
  refine AllReadyH.cons rfl (fun K hK => ?_) AllReadyH.nil
  refine step_rappl rtF rfl _ _ rfl hO1 rfl _ v2 rfl (ROwn.rowL hO2 rtF.len) HLn.out ?_
  intro v3 w3 hO3 hC3
  go_simp
  have hS := Below.trans hS (Below.mono (hC3.below hO1) hB1)
  refine hK.out _ _ hS (fun _ => ?_)
  clear hK K
  refine wpAnyH_take (i := 6) (v := ?vG6) rfl (by kernel_rfl) (by kernel_rfl) (by kernel_rfl) (fun _ _ _ h => h) (Or.inl ⟨by rfl, ?hyG6⟩) hS ?restG6
  case hyG6 =>
    intro w hSw
    first | (go_simp; done) | (go_simp; with_reducible rfl)
  try simp only [Act.put, List.setIfInBounds_toArray, List.set_cons_zero, List.set_cons_succ]
  refine wpAnyH_done (by kernel_rfl) ?_ _
  simp only [List.getElem_toArray, List.getElem_cons_succ, List.getElem_cons_zero, List.set_cons_zero, List.set_cons_succ]
  go_wp2
  go_ret
  exact ⟨v3, rfl, ⟨by rw [HC.out]; exact hO3.own.mono (Nat.le_trans hb0.size hB1), Nat.le_trans hb0.size hS.size⟩, hb0.trans (Below.mono hS hb0.size)⟩

def xsP : List Flt := []
theorem sample_chk (a d : Nat) : chkP (sP a d) = [] := by
  show airF sL sL.length ++ dstF sL sD sD.length = []
  decide +kernel
theorem chk_nil {p : PV} (h : chkP p = []) : (∀ (k : Nat) (a : Air), p.l[k]? = some a → okE (airE (p.l.take k) a) = []) := by
  intro k a hk
  have h1 : airF p.l p.l.length = [] := (List.append_eq_nil_iff.1 h).1
  unfold airF at h1
  rw [List.flatMap_eq_nil_iff] at h1
  have := h1 k (List.mem_range.2 (List.getElem?_eq_some_iff.1 hk).1)
  rw [hk] at this
  unfold pick at this
  exact List.map_eq_nil_iff.1 this

end Go.Proofs.YtjokpfeiganigaaDoor
