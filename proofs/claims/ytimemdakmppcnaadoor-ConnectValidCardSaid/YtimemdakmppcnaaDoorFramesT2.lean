/- ConRV, ConG, FrameK, FramesCB in one text. -/
import Derived.Test.YtimemdakmppcnaaDoorConV
import Derived.Test.YtimemdakmppcnaaDoorPlaR
import Derived.Test.YtimemdakmppcnaaDoorConE
import Derived.Test.YtimemdakmppcnaaDoorPlaQC
import Derived.Deep.RegionHeld3
import Derived.OrdersHeld
import Derived.Test.YtimemdakmppcnaaDoorCards
import Derived.Test.YtimemdakmppcnaaDoorTie
import Derived.WalkKit
import Derived.ProofKit
import Derived.OpenShut
import Derived.ShutString
import Derived.Carry
import Derived.SizedLaws
import Derived.SliceStrings
import Derived.Stop.LaidErr
import Derived.Deep.DeepHandedRow
import Derived.Deep.DeepWitnessRowRef
import Derived.Deep.DeepLaidRun
import Derived.Lib.LaidTab
import Derived.Lib.SmallJoins
import Derived.Deep.SlicePairs
import Derived.Test.YtimemdakmppcnaaDoorRows
import Derived.ChangeSlices
import Derived.Test.YtimemdakmppcnaaDoorPlaB
import Derived.Test.YtimemdakmppcnaaDoorConA
/- Walk of the reference's Valid. -/
namespace Go.Proofs.YtimemdakmppcnaaDoor.Con
open Go.RowKit Go.Shelf
set_option linter.unusedSimpArgs false
set_option linter.unusedVariables false

theorem lt_of_cellC {w : World} {n : Nat} {o : Obj} (h : w.heap[n]? = some o) : n < w.heap.size := by
  rw [Array.getElem?_eq_some_iff] at h
  exact h.1
theorem info_air11 : (Tryd.prog.info? airT).map (·.size) = some 5 := by kernel_rfl
theorem store_air {X : Array Value} {c t d : ByteArray} {o : Int} {Ar : Option Addr} {nn cc : Nat} (hX : Hid (X = #[.string c, .string t, .string d, .int .i64 o, .slice Ar nn cc])) (w : World) :
    (storeCells ⟨w.heap.size, 0, none⟩ X.toList 0).run Tryd.prog (w.alloc (.cells #[.string noB, .string noB, .string noB, .int .i64 0, .slice none 0 0] airT)) = .ok () (w.alloc (.cells X airT)) := by
  have e := hX.out
  subst e
  exact run_storeCells_new w airT _ _ info_air11 rfl (by simp [Value.oneCell'])
theorem store_airB {w : World} {k : Nat} {cs X : Array Value} {t : TypeId} (h : w.heap[k]? = some (.cells cs t (0, 0))) (hs : X.size = cs.size) (h1 : ∀ v ∈ X.toList, v.oneCell' = true) : ∃ w', (storeCells ⟨k, 0, none⟩ X.toList 0).run Tryd.prog w = .ok () w' ∧ w'.heap[k]? = some (.cells X t (0, 0)) ∧ But w w' (fun j => j = k) := by
  have h2 := run_storeCells_at (P := Tryd.prog) k 0 t X.toList 0 cs w h (by simp [hs]) h1
  have e : (cs.toList.take (0 + 0) ++ X.toList ++ cs.toList.drop (0 + 0 + X.toList.length)).toArray = X := by
    have : cs.toList.drop (0 + 0 + X.toList.length) = [] := by simp [hs]
    rw [this]
    simp
  rw [e] at h2
  refine ⟨_, h2, setRow_heap w k cs X t (0, 0) h, ⟨rfl, rfl, rfl, by simp [World.setRow], fun j hj hne => setRow_other w k j X hne⟩⟩
/-- what Find answers, its record hidden -/
def FindX (k : Bool) (W : World) : Ending → World → Prop := fun e w' => ∃ (X : Array Value), e = .returned (.tuple #[.agg X, .bool k]) ∧ X.size = 5 ∧ (∀ v ∈ X.toList, v.oneCell' = true) ∧ (∀ u : World, (storeCells ⟨u.heap.size, 0, none⟩ X.toList 0).run Tryd.prog (u.alloc (.cells #[.string noB, .string noB, .string noB, .int .i64 0, .slice none 0 0] airT)) = .ok () (u.alloc (.cells X airT))) ∧ Below W.heap.size W w'
theorem find_x (p : PV) (s : ByteArray) (w : World) (hl : p.l.length ≤ 40) (hL : AirL w p.A p.l) : Calls Tryd.prog 23 #[encP p, .string s] w (FindX (airB p s) w) :=
  (rfind_any p s w hl hL).mono (by
    rintro e w' ⟨rfl, hb⟩
    exact ⟨_, rfl, rfl, by simp [Value.oneCell'], fun u => store_air (Lib.hid rfl) u, hb⟩)

set_option maxRecDepth 100000 in
set_option maxHeartbeats 16000000 in
theorem rvalid_any (p : PV) (v : Value) (ln : List Cn) (v2 : Value) (S : List Sg) (w : World) (ho : OkV p) (hL : AirL w p.A p.l) (hv : CnL w v ln) (hn : ln.length ≤ 1000) (hS : SgL w v2 S) (hsn : S.length ≤ 1000) (ht : ∀ s ∈ S, tmB s) :
    Calls Tryd.prog 19 #[encP p, v, v2] w fun e w' => e = .returned (.int .i64 (valP p ln S)) ∧ Below w.heap.size w w' := by
  have hbx := bel_alloc w (.cells #[.slice p.A p.l.length p.ca, .slice p.D p.ds.length p.cd] placesT)
  have KA := Lib.hid (fun (s : ByteArray) W (h : Below w.heap.size w W) => find_x p s W ho.len (hL.more h))
  have KC := Lib.hid (fun (x y : Sg) (hx : tmB x) (hy : tmB y) W (h : Below w.heap.size w W) => rstep_any p v ln x y W ho (hL.more h) (hv.more h) hn hx hy)
  have HP : Hid (valP p ln S = if S.length < 1 ∨ 6 < S.length then 4 else vFr p ln S S.length 0) := Lib.hid rfl
  have HA : Hid (∀ i, vAt p ln S i = if !(airB p (sA S i).f) || !(airB p (sA S i).t) then 14 else if (sA S i).arr ≤ (sA S i).dep then 13 else if i = 0 then 0 else chgP p ln (sA S (i - 1)) (sA S i)) := Lib.hid (fun i => rfl)
  have HF : Hid (∀ n k, vFr p ln S (n + 1) k = if vAt p ln S k ≠ 0 then vAt p ln S k else vFr p ln S n (k + 1)) := Lib.hid (fun n k => rfl)
  have HF0 : Hid (∀ k, vFr p ln S 0 k = 0) := Lib.hid (fun k => rfl)
  obtain ⟨Bc, cb, rfl, _⟩ := id hv
  obtain ⟨Bs, cs, rfl, _⟩ := id hS
  have HS := Lib.hid hS
  have HT := Lib.hid ht
  have p0 := (cells_new w #[.slice p.A p.l.length p.ca, .slice p.D p.ds.length p.cd] placesT 0).trans (show _ = some (Value.slice p.A p.l.length p.ca) from rfl)
  have p1 := (cells_new w #[.slice p.A p.l.length p.ca, .slice p.D p.ds.length p.cd] placesT 1).trans (show _ = some (Value.slice p.D p.ds.length p.cd) from rfl)
  generalize airB p = ab at *
  generalize chgP p ln = cg at *
  generalize valP p ln S = R at *
  generalize vAt p ln S = va at *
  generalize vFr p ln S = vf at *
  obtain ⟨A, ca, l, D, cd, ds⟩ := p
  dsimp only at *
  clear hv hS ht ho hL
  by_cases hsz : S.length < 1
  · have hsz0 : (S.length : Int) < 1 := by omega
    have HR : Hid (4 = R) := Lib.hid (by rw [HP.out, if_pos (.inl hsz)])
    go_enter Tryd.func19, Tryd.ntmps19
    go_wp2
    go_ret
    exact ⟨ret_int HR.out, hbx⟩
  by_cases hsz6 : 6 < S.length
  · have hsz0 : ¬ (S.length : Int) < 1 := by omega
    have hsz7 : 6 < (S.length : Int) := by omega
    have HR : Hid (4 = R) := Lib.hid (by rw [HP.out, if_pos (.inr hsz6)])
    go_enter Tryd.func19, Tryd.ntmps19
    go_wp2
    go_ret
    exact ⟨ret_int HR.out, hbx⟩
  have hsz0 : ¬ (S.length : Int) < 1 := by omega
  have hsz7 : ¬ 6 < (S.length : Int) := by omega
  have HR0 : Hid (R = vf S.length 0) := Lib.hid (by rw [HP.out, if_neg (by omega)])
  clear HP
  have HBX := Lib.hid hbx
  obtain ⟨B, hB⟩ : ∃ B, B = w.heap.size := ⟨_, rfl⟩
  rw [← hB] at p0 p1
  go_enter Tryd.func19, Tryd.ntmps19
  go_wp2
  rw [← hB]
  generalize w.alloc (.cells #[.slice A l.length ca, .slice D ds.length cd] placesT) = w5 at *
  clear hB hbx
  go_loopw [7] (fun vi wr => ∃ (k : Nat), k ≤ S.length ∧ vi = .int .i64 k ∧ Hid (R = vf (S.length - k) k) ∧ SW w5 wr) (fun vi _ => S.length - (intOf vi).toNat)
  case atStart => exact ⟨0, Nat.zero_le _, rfl, HR0, Below.refl _ _⟩
  case round =>
    obtain ⟨k, hk, rfl, HK, hW5⟩ := hrel
    by_cases hlt : k < S.length
    · have hx := sA_get hlt
      have hbw : Below w.heap.size w wr := HBX.out.trans (Below.mono hW5 HBX.out.size)
      obtain ⟨bb, off, e1, hbl, hc⟩ := row_get (HS.out.more hbw) hx
      cases e1
      have i2 : (k : Int) < (S.length : Int) := by omega
      have d0 := hc 0 _ rfl
      have d1 := hc 1 _ rfl
      have d2 := hc 2 _ rfl
      have d3 := hc 3 _ rfl
      have d4 := hc 4 _ rfl
      have d5 := hc 5 _ rfl
      have d6 := hc 6 _ rfl
      rw [Nat.add_zero] at d0
      have HTK := Lib.hid (HT.out _ (List.mem_of_getElem? hx))
      have HST : Hid (R = if va k ≠ 0 then va k else vf (S.length - (k + 1)) (k + 1)) := Lib.hid (by rw [HK.out, show S.length - k = (S.length - (k + 1)) + 1 by omega, HF.out])
      have HVA := Lib.hid (HA.out k)
      obtain ⟨y, hy⟩ : ∃ y, y = sA S k := ⟨_, rfl⟩
      rw [← hy] at d0 d1 d2 d3 d4 d5 d6 HTK HVA
      have Z0 := Lib.hid (bel_get (bel_get p0 _ hW5))
      have Z1 := Lib.hid (bel_get (bel_get p1 _ hW5))
      have HBW := Lib.hid hbw
      have HW5 := Lib.hid hW5
      have D0 := Lib.hid (bel_get d0)
      have D1 := Lib.hid (bel_get d1)
      have D2 := Lib.hid (bel_get d2)
      have D3 := Lib.hid (bel_get d3)
      have D4 := Lib.hid (bel_get d4)
      have D5 := Lib.hid (bel_get d5)
      have D6 := Lib.hid (bel_get d6)
      have KF : Hid (∀ W, SW wr W → Calls Tryd.prog 23 #[.agg #[.slice A l.length ca, .slice D ds.length cd], .string y.f] W (FindX (ab y.f) W)) := Lib.hid (fun W h => KA.out y.f W (HBW.out.trans (Below.mono h HBW.out.size)))
      have KT : Hid (∀ W, SW wr W → Calls Tryd.prog 23 #[.agg #[.slice A l.length ca, .slice D ds.length cd], .string y.t] W (FindX (ab y.t) W)) := Lib.hid (fun W h => KA.out y.t W (HBW.out.trans (Below.mono h HBW.out.size)))
      generalize ab y.f = kf at *
      generalize ab y.t = kt at *
      clear hx hc hy hbw d0 d1 d2 d3 d4 d5 d6 hbl
      have z0 := Z0.out
      have z1 := Z1.out
      have g3 := D3.out
      go_upto_region 6 with fail
      clear hW5
      go_cut [8, 9] from 21 to 80 (fun v8 v9 wx => v9 = .bool kf ∧ Hid (SW wr wx))
      case first =>
        clear HST HVA HTK KT HK KC KA D0 D1 D2 D4 D5 D6
        have hS : (SW wr) _ := (Below.refl _ _).drew
        refine wp_region_held_drew (S := SW wr) (by kernel_rfl) hS (fun _ => ?_)
        refine wpAnyH_take (i := 0) (v := ?vR60) rfl (by kernel_rfl) (by kernel_rfl) (by kernel_rfl) (fun _ _ _ h => h) (Or.inl ⟨by rfl, ?hyR60⟩) hS ?restR60
        case hyR60 =>
          intro w hSw
          have k0 := z0 w hSw; have k1 := z1 w hSw; have k2 := g3 w hSw
          first | (go_simp; done) | (go_simp; with_reducible rfl)
        try simp only [Act.put, List.setIfInBounds_toArray, List.set_cons_zero, List.set_cons_succ]
        refine wpAnyH_take (i := 1) (v := ?vR61) rfl (by kernel_rfl) (by kernel_rfl) (by kernel_rfl) (fun _ _ _ h => h) (Or.inl ⟨by rfl, ?hyR61⟩) hS ?restR61
        case hyR61 =>
          intro w hSw
          first | (go_simp; done) | (go_simp; with_reducible rfl)
        try simp only [Act.put, List.setIfInBounds_toArray, List.set_cons_zero, List.set_cons_succ]
        refine wpAnyH_take (i := 2) (v := ?vR62) rfl (by kernel_rfl) (by kernel_rfl) (by kernel_rfl) (fun _ _ _ h => h) (Or.inl ⟨by rfl, ?hyR62⟩) hS ?restR62
        case hyR62 =>
          intro w hSw
          first | (go_simp; done) | (go_simp; with_reducible rfl)
        try simp only [Act.put, List.setIfInBounds_toArray, List.set_cons_zero, List.set_cons_succ]
        refine wpAnyH_take (i := 3) (v := ?vR63) rfl (by kernel_rfl) (by kernel_rfl) (by kernel_rfl) (fun _ _ _ h => h) (Or.inl ⟨by rfl, ?hyR63⟩) hS ?restR63
        case hyR63 =>
          intro w hSw
          have k0 := z0 w hSw; have k1 := z1 w hSw; have k2 := g3 w hSw
          first | (go_simp; done) | (go_simp; with_reducible rfl)
        try simp only [Act.put, List.setIfInBounds_toArray, List.set_cons_zero, List.set_cons_succ]
        refine wpAnyH_take (i := 4) (v := ?vR64) rfl (by kernel_rfl) (by kernel_rfl) (by kernel_rfl) (fun _ _ _ h => h) (Or.inl ⟨by rfl, ?hyR64⟩) hS ?restR64
        case hyR64 =>
          intro w hSw
          first | (go_simp; done) | (go_simp; with_reducible rfl)
        try simp only [Act.put, List.setIfInBounds_toArray, List.set_cons_zero, List.set_cons_succ]
        refine wpAnyH_take (i := 5) (v := ?vR65) rfl (by kernel_rfl) (by kernel_rfl) (by kernel_rfl) (fun _ _ _ h => h) (Or.inl ⟨by rfl, ?hyR65⟩) hS ?restR65
        case hyR65 =>
          intro w hSw
          have k0 := z0 w hSw; have k1 := z1 w hSw; have k2 := g3 w hSw
          first | (go_simp; done) | (go_simp; with_reducible rfl)
        try simp only [Act.put, List.setIfInBounds_toArray, List.set_cons_zero, List.set_cons_succ]
        refine wpAnyH_ready (rs := [6, 10]) (by kernel_rfl) (by simp) ?_
        refine AllReadyH.cons rfl (fun K hK => ?_) (AllReadyH.cons rfl (fun K hK => ?_) AllReadyH.nil)
        · go_simp
          go_wp2_with ((go_at_call 23; refine (KF.out _ hS).mono ?_; rintro e w9 ⟨X1, rfl, hsz1, hone, hst, hb9⟩; have hS9 : SW wr w9 := Below.trans hS (Below.mono hb9 hS.size); have hS := hS9; have hst1 := hst w9))
          refine hK.out _ _ hS (fun _ => ?_)
          clear hK K
          refine wpAnyH_take (i := 7) (v := ?vR6a7) rfl (by kernel_rfl) (by kernel_rfl) (by kernel_rfl) (fun _ _ _ h => h) (Or.inl ⟨by rfl, ?hyR6a7⟩) hS ?restR6a7
          case hyR6a7 =>
            intro w hSw
            first | (go_simp; done) | (go_simp; with_reducible rfl)
          try simp only [Act.put, List.setIfInBounds_toArray, List.set_cons_zero, List.set_cons_succ]
          refine wpAnyH_take (i := 8) (v := ?vR6a8) rfl (by kernel_rfl) (by kernel_rfl) (by kernel_rfl) (fun _ _ _ h => h) (Or.inl ⟨by rfl, ?hyR6a8⟩) hS ?restR6a8
          case hyR6a8 =>
            intro w hSw
            first | (go_simp; done) | (go_simp; with_reducible rfl)
          try simp only [Act.put, List.setIfInBounds_toArray, List.set_cons_zero, List.set_cons_succ]
          refine wpAnyH_take (i := 9) (v := ?vR6a9) rfl (by kernel_rfl) (by kernel_rfl) (by kernel_rfl) (fun _ _ _ h => h) (Or.inl ⟨by rfl, ?hyR6a9⟩) hS ?restR6a9
          case hyR6a9 =>
            intro w hSw
            first | (go_simp; done) | (go_simp; with_reducible rfl)
          try simp only [Act.put, List.setIfInBounds_toArray, List.set_cons_zero, List.set_cons_succ]
          refine wpAnyH_ready (rs := [10]) (by kernel_rfl) (by simp) ?_
          refine AllReadyH.cons rfl (fun K hK => ?_) AllReadyH.nil
          go_simp
          have hSp := hS
          have hS := Below.trans hSp (Below.mono (bel_alloc _ (.cells #[.string noB, .string noB, .string noB, .int .i64 0, .slice none 0 0] airT)) hSp.size)
          refine hK.out _ _ hS (fun _ => ?_)
          clear hK K
          refine wpAnyH_ready (rs := [11]) (by kernel_rfl) (by simp) ?_
          refine AllReadyH.cons rfl (fun K hK => ?_) AllReadyH.nil
          go_simp
          have hS : SW wr (w9.alloc (.cells X1 airT)) := Below.trans hS9 (Below.mono (bel_alloc w9 _) hS9.size)
          refine hK.out _ _ hS (fun _ => ?_)
          clear hK K
          refine wpAnyH_take (i := 12) (v := ?vR6a12) rfl (by kernel_rfl) (by kernel_rfl) (by kernel_rfl) (fun _ _ _ h => h) (Or.inl ⟨by rfl, ?hyR6a12⟩) hS ?restR6a12
          case hyR6a12 =>
            intro w hSw
            first | (go_simp; done) | (go_simp; with_reducible rfl)
          try simp only [Act.put, List.setIfInBounds_toArray, List.set_cons_zero, List.set_cons_succ]
          refine wpAnyH_done (by kernel_rfl) ?_ _
          simp only [List.getElem_toArray, List.getElem_cons_succ, List.getElem_cons_zero, List.set_cons_zero, List.set_cons_succ]
          try simp only [List.setIfInBounds_toArray, List.set_cons_zero, List.set_cons_succ]
          go_wp2_with fail
          go_meet
          exact ⟨rfl, Lib.hid hS⟩
        · go_simp
          have hSp := hS
          have hN0 := heap_alloc_new wr.drew (.cells #[.string noB, .string noB, .string noB, .int .i64 0, .slice none 0 0] airT)
          have hS := Below.trans hSp (Below.mono (bel_alloc _ (.cells #[.string noB, .string noB, .string noB, .int .i64 0, .slice none 0 0] airT)) hSp.size)
          refine hK.out _ _ hS (fun _ => ?_)
          clear hK K
          refine wpAnyH_ready (rs := [6]) (by kernel_rfl) (by simp) ?_
          refine AllReadyH.cons rfl (fun K hK => ?_) AllReadyH.nil
          go_simp
          go_wp2_with ((go_at_call 23; refine (KF.out _ hS).mono ?_; rintro e w9 ⟨X1, rfl, hsz1, hone, hst, hb9⟩; have hS9 : SW wr w9 := Below.trans hS (Below.mono hb9 hS.size); have hS := hS9; obtain ⟨wS, hst0, hxS, hbS⟩ := store_airB (X := X1) ((hb9.block _ (lt_of_cellC hN0)).trans hN0) hsz1 hone; have hst1 : (storeCells ⟨wr.heap.size, 0, none⟩ X1.toList 0).run Tryd.prog w9 = .ok () wS := hst0))
          refine hK.out _ _ hS (fun _ => ?_)
          clear hK K
          refine wpAnyH_take (i := 7) (v := ?vR6b7) rfl (by kernel_rfl) (by kernel_rfl) (by kernel_rfl) (fun _ _ _ h => h) (Or.inl ⟨by rfl, ?hyR6b7⟩) hS ?restR6b7
          case hyR6b7 =>
            intro w hSw
            first | (go_simp; done) | (go_simp; with_reducible rfl)
          try simp only [Act.put, List.setIfInBounds_toArray, List.set_cons_zero, List.set_cons_succ]
          refine wpAnyH_take (i := 8) (v := ?vR6b8) rfl (by kernel_rfl) (by kernel_rfl) (by kernel_rfl) (fun _ _ _ h => h) (Or.inl ⟨by rfl, ?hyR6b8⟩) hS ?restR6b8
          case hyR6b8 =>
            intro w hSw
            first | (go_simp; done) | (go_simp; with_reducible rfl)
          try simp only [Act.put, List.setIfInBounds_toArray, List.set_cons_zero, List.set_cons_succ]
          refine wpAnyH_take (i := 9) (v := ?vR6b9) rfl (by kernel_rfl) (by kernel_rfl) (by kernel_rfl) (fun _ _ _ h => h) (Or.inl ⟨by rfl, ?hyR6b9⟩) hS ?restR6b9
          case hyR6b9 =>
            intro w hSw
            first | (go_simp; done) | (go_simp; with_reducible rfl)
          try simp only [Act.put, List.setIfInBounds_toArray, List.set_cons_zero, List.set_cons_succ]
          refine wpAnyH_ready (rs := [11]) (by kernel_rfl) (by simp) ?_
          refine AllReadyH.cons rfl (fun K hK => ?_) AllReadyH.nil
          go_simp
          have hS : SW wr wS := Below.trans hS9 (hbS.below hS9.size (fun q hq he => by have : q = wr.heap.size := he; omega))
          refine hK.out _ _ hS (fun _ => ?_)
          clear hK K
          refine wpAnyH_take (i := 12) (v := ?vR6b12) rfl (by kernel_rfl) (by kernel_rfl) (by kernel_rfl) (fun _ _ _ h => h) (Or.inl ⟨by rfl, ?hyR6b12⟩) hS ?restR6b12
          case hyR6b12 =>
            intro w hSw
            first | (go_simp; done) | (go_simp; with_reducible rfl)
          try simp only [Act.put, List.setIfInBounds_toArray, List.set_cons_zero, List.set_cons_succ]
          refine wpAnyH_done (by kernel_rfl) ?_ _
          simp only [List.getElem_toArray, List.getElem_cons_succ, List.getElem_cons_zero, List.set_cons_zero, List.set_cons_succ]
          try simp only [List.setIfInBounds_toArray, List.set_cons_zero, List.set_cons_succ]
          go_wp2_with fail
          go_meet
          exact ⟨rfl, Lib.hid hS⟩
      case rest =>
        obtain ⟨rfl, HC6⟩ := hcut
        clear KF z0 z1 g3
        have z0 : ∀ W, SW wc W → W.cell? ⟨B, 0, none⟩ = some (Value.slice A l.length ca) := fun W h => Z0.out W (Below.trans HC6.out (Below.mono h HC6.out.size))
        have z1 : ∀ W, SW wc W → W.cell? ⟨B, 1, none⟩ = some (Value.slice D ds.length cd) := fun W h => Z1.out W (Below.trans HC6.out (Below.mono h HC6.out.size))
        have g4 : ∀ W, SW wc W → W.cell? ⟨bb, off + k * 7 + 4, none⟩ = some (Value.string y.t) := fun W h => D4.out W (Below.trans HC6.out (Below.mono h HC6.out.size))
        have KT : Hid (∀ W, SW wc W → Calls Tryd.prog 23 #[.agg #[.slice A l.length ca, .slice D ds.length cd], .string y.t] W (FindX kt W)) := Lib.hid (fun W h => KT.out W (Below.trans HC6.out (Below.mono h HC6.out.size)))
        obtain ⟨w6, hw6⟩ : ∃ w6, w6 = wc := ⟨_, rfl⟩
        subst hw6
        go_upto_region 7 with fail
        go_cut [10, 11] from 21 to 80 (fun v10 v11 wx => v11 = .bool kt ∧ Hid (SW w6 wx))
        case first =>
          clear HST HVA HTK HK KC KA D0 D1 D2 D3 D5 D6
          have hS : (SW w6) _ := (Below.refl _ _).drew
          refine wp_region_held_drew (S := SW w6) (by kernel_rfl) hS (fun _ => ?_)
          refine wpAnyH_take (i := 0) (v := ?vR70) rfl (by kernel_rfl) (by kernel_rfl) (by kernel_rfl) (fun _ _ _ h => h) (Or.inl ⟨by rfl, ?hyR70⟩) hS ?restR70
          case hyR70 =>
            intro w hSw
            have k0 := z0 w hSw; have k1 := z1 w hSw; have k2 := g4 w hSw
            first | (go_simp; done) | (go_simp; with_reducible rfl)
          try simp only [Act.put, List.setIfInBounds_toArray, List.set_cons_zero, List.set_cons_succ]
          refine wpAnyH_take (i := 1) (v := ?vR71) rfl (by kernel_rfl) (by kernel_rfl) (by kernel_rfl) (fun _ _ _ h => h) (Or.inl ⟨by rfl, ?hyR71⟩) hS ?restR71
          case hyR71 =>
            intro w hSw
            first | (go_simp; done) | (go_simp; with_reducible rfl)
          try simp only [Act.put, List.setIfInBounds_toArray, List.set_cons_zero, List.set_cons_succ]
          refine wpAnyH_take (i := 2) (v := ?vR72) rfl (by kernel_rfl) (by kernel_rfl) (by kernel_rfl) (fun _ _ _ h => h) (Or.inl ⟨by rfl, ?hyR72⟩) hS ?restR72
          case hyR72 =>
            intro w hSw
            first | (go_simp; done) | (go_simp; with_reducible rfl)
          try simp only [Act.put, List.setIfInBounds_toArray, List.set_cons_zero, List.set_cons_succ]
          refine wpAnyH_take (i := 3) (v := ?vR73) rfl (by kernel_rfl) (by kernel_rfl) (by kernel_rfl) (fun _ _ _ h => h) (Or.inl ⟨by rfl, ?hyR73⟩) hS ?restR73
          case hyR73 =>
            intro w hSw
            have k0 := z0 w hSw; have k1 := z1 w hSw; have k2 := g4 w hSw
            first | (go_simp; done) | (go_simp; with_reducible rfl)
          try simp only [Act.put, List.setIfInBounds_toArray, List.set_cons_zero, List.set_cons_succ]
          refine wpAnyH_take (i := 4) (v := ?vR74) rfl (by kernel_rfl) (by kernel_rfl) (by kernel_rfl) (fun _ _ _ h => h) (Or.inl ⟨by rfl, ?hyR74⟩) hS ?restR74
          case hyR74 =>
            intro w hSw
            first | (go_simp; done) | (go_simp; with_reducible rfl)
          try simp only [Act.put, List.setIfInBounds_toArray, List.set_cons_zero, List.set_cons_succ]
          refine wpAnyH_take (i := 5) (v := ?vR75) rfl (by kernel_rfl) (by kernel_rfl) (by kernel_rfl) (fun _ _ _ h => h) (Or.inl ⟨by rfl, ?hyR75⟩) hS ?restR75
          case hyR75 =>
            intro w hSw
            have k0 := z0 w hSw; have k1 := z1 w hSw; have k2 := g4 w hSw
            first | (go_simp; done) | (go_simp; with_reducible rfl)
          try simp only [Act.put, List.setIfInBounds_toArray, List.set_cons_zero, List.set_cons_succ]
          refine wpAnyH_ready (rs := [6, 10]) (by kernel_rfl) (by simp) ?_
          refine AllReadyH.cons rfl (fun K hK => ?_) (AllReadyH.cons rfl (fun K hK => ?_) AllReadyH.nil)
          · go_simp
            go_wp2_with ((go_at_call 23; refine (KT.out _ hS).mono ?_; rintro e w9 ⟨X1, rfl, hsz1, hone, hst, hb9⟩; have hS9 : SW w6 w9 := Below.trans hS (Below.mono hb9 hS.size); have hS := hS9; have hst1 := hst w9))
            refine hK.out _ _ hS (fun _ => ?_)
            clear hK K
            refine wpAnyH_take (i := 7) (v := ?vR7a7) rfl (by kernel_rfl) (by kernel_rfl) (by kernel_rfl) (fun _ _ _ h => h) (Or.inl ⟨by rfl, ?hyR7a7⟩) hS ?restR7a7
            case hyR7a7 =>
              intro w hSw
              first | (go_simp; done) | (go_simp; with_reducible rfl)
            try simp only [Act.put, List.setIfInBounds_toArray, List.set_cons_zero, List.set_cons_succ]
            refine wpAnyH_take (i := 8) (v := ?vR7a8) rfl (by kernel_rfl) (by kernel_rfl) (by kernel_rfl) (fun _ _ _ h => h) (Or.inl ⟨by rfl, ?hyR7a8⟩) hS ?restR7a8
            case hyR7a8 =>
              intro w hSw
              first | (go_simp; done) | (go_simp; with_reducible rfl)
            try simp only [Act.put, List.setIfInBounds_toArray, List.set_cons_zero, List.set_cons_succ]
            refine wpAnyH_take (i := 9) (v := ?vR7a9) rfl (by kernel_rfl) (by kernel_rfl) (by kernel_rfl) (fun _ _ _ h => h) (Or.inl ⟨by rfl, ?hyR7a9⟩) hS ?restR7a9
            case hyR7a9 =>
              intro w hSw
              first | (go_simp; done) | (go_simp; with_reducible rfl)
            try simp only [Act.put, List.setIfInBounds_toArray, List.set_cons_zero, List.set_cons_succ]
            refine wpAnyH_ready (rs := [10]) (by kernel_rfl) (by simp) ?_
            refine AllReadyH.cons rfl (fun K hK => ?_) AllReadyH.nil
            go_simp
            have hSp := hS
            have hS := Below.trans hSp (Below.mono (bel_alloc _ (.cells #[.string noB, .string noB, .string noB, .int .i64 0, .slice none 0 0] airT)) hSp.size)
            refine hK.out _ _ hS (fun _ => ?_)
            clear hK K
            refine wpAnyH_ready (rs := [11]) (by kernel_rfl) (by simp) ?_
            refine AllReadyH.cons rfl (fun K hK => ?_) AllReadyH.nil
            go_simp
            have hS : SW w6 (w9.alloc (.cells X1 airT)) := Below.trans hS9 (Below.mono (bel_alloc w9 _) hS9.size)
            refine hK.out _ _ hS (fun _ => ?_)
            clear hK K
            refine wpAnyH_take (i := 12) (v := ?vR7a12) rfl (by kernel_rfl) (by kernel_rfl) (by kernel_rfl) (fun _ _ _ h => h) (Or.inl ⟨by rfl, ?hyR7a12⟩) hS ?restR7a12
            case hyR7a12 =>
              intro w hSw
              first | (go_simp; done) | (go_simp; with_reducible rfl)
            try simp only [Act.put, List.setIfInBounds_toArray, List.set_cons_zero, List.set_cons_succ]
            refine wpAnyH_done (by kernel_rfl) ?_ _
            simp only [List.getElem_toArray, List.getElem_cons_succ, List.getElem_cons_zero, List.set_cons_zero, List.set_cons_succ]
            try simp only [List.setIfInBounds_toArray, List.set_cons_zero, List.set_cons_succ]
            go_wp2_with fail
            go_meet
            exact ⟨rfl, Lib.hid hS⟩
          · go_simp
            have hSp := hS
            have hN0 := heap_alloc_new w6.drew (.cells #[.string noB, .string noB, .string noB, .int .i64 0, .slice none 0 0] airT)
            have hS := Below.trans hSp (Below.mono (bel_alloc _ (.cells #[.string noB, .string noB, .string noB, .int .i64 0, .slice none 0 0] airT)) hSp.size)
            refine hK.out _ _ hS (fun _ => ?_)
            clear hK K
            refine wpAnyH_ready (rs := [6]) (by kernel_rfl) (by simp) ?_
            refine AllReadyH.cons rfl (fun K hK => ?_) AllReadyH.nil
            go_simp
            go_wp2_with ((go_at_call 23; refine (KT.out _ hS).mono ?_; rintro e w9 ⟨X1, rfl, hsz1, hone, hst, hb9⟩; have hS9 : SW w6 w9 := Below.trans hS (Below.mono hb9 hS.size); have hS := hS9; obtain ⟨wS, hst0, hxS, hbS⟩ := store_airB (X := X1) ((hb9.block _ (lt_of_cellC hN0)).trans hN0) hsz1 hone; have hst1 : (storeCells ⟨w6.heap.size, 0, none⟩ X1.toList 0).run Tryd.prog w9 = .ok () wS := hst0))
            refine hK.out _ _ hS (fun _ => ?_)
            clear hK K
            refine wpAnyH_take (i := 7) (v := ?vR7b7) rfl (by kernel_rfl) (by kernel_rfl) (by kernel_rfl) (fun _ _ _ h => h) (Or.inl ⟨by rfl, ?hyR7b7⟩) hS ?restR7b7
            case hyR7b7 =>
              intro w hSw
              first | (go_simp; done) | (go_simp; with_reducible rfl)
            try simp only [Act.put, List.setIfInBounds_toArray, List.set_cons_zero, List.set_cons_succ]
            refine wpAnyH_take (i := 8) (v := ?vR7b8) rfl (by kernel_rfl) (by kernel_rfl) (by kernel_rfl) (fun _ _ _ h => h) (Or.inl ⟨by rfl, ?hyR7b8⟩) hS ?restR7b8
            case hyR7b8 =>
              intro w hSw
              first | (go_simp; done) | (go_simp; with_reducible rfl)
            try simp only [Act.put, List.setIfInBounds_toArray, List.set_cons_zero, List.set_cons_succ]
            refine wpAnyH_take (i := 9) (v := ?vR7b9) rfl (by kernel_rfl) (by kernel_rfl) (by kernel_rfl) (fun _ _ _ h => h) (Or.inl ⟨by rfl, ?hyR7b9⟩) hS ?restR7b9
            case hyR7b9 =>
              intro w hSw
              first | (go_simp; done) | (go_simp; with_reducible rfl)
            try simp only [Act.put, List.setIfInBounds_toArray, List.set_cons_zero, List.set_cons_succ]
            refine wpAnyH_ready (rs := [11]) (by kernel_rfl) (by simp) ?_
            refine AllReadyH.cons rfl (fun K hK => ?_) AllReadyH.nil
            go_simp
            have hS : SW w6 wS := Below.trans hS9 (hbS.below hS9.size (fun q hq he => by have : q = w6.heap.size := he; omega))
            refine hK.out _ _ hS (fun _ => ?_)
            clear hK K
            refine wpAnyH_take (i := 12) (v := ?vR7b12) rfl (by kernel_rfl) (by kernel_rfl) (by kernel_rfl) (fun _ _ _ h => h) (Or.inl ⟨by rfl, ?hyR7b12⟩) hS ?restR7b12
            case hyR7b12 =>
              intro w hSw
              first | (go_simp; done) | (go_simp; with_reducible rfl)
            try simp only [Act.put, List.setIfInBounds_toArray, List.set_cons_zero, List.set_cons_succ]
            refine wpAnyH_done (by kernel_rfl) ?_ _
            simp only [List.getElem_toArray, List.getElem_cons_succ, List.getElem_cons_zero, List.set_cons_zero, List.set_cons_succ]
            try simp only [List.setIfInBounds_toArray, List.set_cons_zero, List.set_cons_succ]
            go_wp2_with fail
            go_meet
            exact ⟨rfl, Lib.hid hS⟩
        case rest =>
          obtain ⟨rfl, HC7⟩ := hcut
          clear KT z0 z1 g4
          obtain ⟨w8, hw8⟩ : ∃ w8, w8 = wc := ⟨_, rfl⟩
          subst hw8
          have hW8 : SW wr w8 := Below.trans HC6.out (Below.mono HC7.out HC6.out.size)
          have HB8 : Hid (Below w.heap.size w w8) := Lib.hid (HBW.out.trans (Below.mono hW8 HBW.out.size))
          have HW8 : Hid (SW w5 w8) := Lib.hid (Below.trans HW5.out (Below.mono hW8 HW5.out.size))
          cases kf with
          | false =>
            have HR : Hid (14 = R) := Lib.hid (by rw [HST.out, HVA.out]; rfl)
            go_wp2
            go_ret
            exact ⟨ret_int HR.out, HB8.out⟩
          | true =>
          cases kt with
          | false =>
            have HR : Hid (14 = R) := Lib.hid (by rw [HST.out, HVA.out]; rfl)
            go_wp2
            go_ret
            exact ⟨ret_int HR.out, HB8.out⟩
          | true =>
          have c5 := D5.out _ hW8
          have c6 := D6.out _ hW8
          clear hW8
          cases h3 : decide (y.arr ≤ y.dep) with
          | true =>
            have h3' : y.arr ≤ y.dep := of_decide_eq_true h3
            have HR : Hid (13 = R) := Lib.hid (by rw [HST.out, HVA.out]; simp [h3'])
            go_wp2
            go_quiet (fail)
            go_wp2
            go_ret
            exact ⟨ret_int HR.out, below_drewN HB8.out _⟩
          | false =>
          have h3' : ¬ y.arr ≤ y.dep := of_decide_eq_false h3
          cases k with
          | zero =>
            have HR : Hid (R = vf (S.length - 1) 1) := Lib.hid (by rw [HST.out, HVA.out]; simp [h3'])
            go_wp2
            go_quiet (fail)
            go_wp2
            go_roundw
            case rel => exact ⟨1, by omega, by go_num, HR, below_drewN HW8.out _⟩
            case measure => simp [intOf]; omega
          | succ q =>
          have hxq := sA_get (show q < S.length by omega)
          obtain ⟨b2, o2, e2, hb2, hcq⟩ := row_get (HS.out.more HB8.out) hxq
          cases e2
          have i3 : (q : Int) < (S.length : Int) := by omega
          have k1 : 0 < (q : Int) + 1 := by omega
          have k2 : (0 : Int) < ((q + 1 : Nat) : Int) := by omega
          have w1 : IntKind.i64.wrap (q : Int) = (q : Int) := IntWalk.i64_in _ (by omega)
          have t0 := hcq 0 _ rfl
          have t1 := hcq 1 _ rfl
          have t2 := hcq 2 _ rfl
          have t3 := hcq 3 _ rfl
          have t4 := hcq 4 _ rfl
          have t5 := hcq 5 _ rfl
          have t6 := hcq 6 _ rfl
          rw [Nat.add_zero] at t0
          have HTQ := Lib.hid (HT.out _ (List.mem_of_getElem? hxq))
          obtain ⟨x, hx⟩ : ∃ x, x = sA S q := ⟨_, rfl⟩
          rw [← hx] at t0 t1 t2 t3 t4 t5 t6 HTQ
          have HR2 : Hid (R = if cg x y ≠ 0 then cg x y else vf (S.length - (q + 1 + 1)) (q + 1 + 1)) := Lib.hid (by rw [HST.out, HVA.out, hx]; simp [h3'])
          clear HST HVA hxq hcq hx hb2
          have hW8 : SW wr w8 := Below.trans HC6.out (Below.mono HC7.out HC6.out.size)
          have s0 := D0.out _ hW8
          have s1 := D1.out _ hW8
          have s2 := D2.out _ hW8
          have s3 := D3.out _ hW8
          have s4 := D4.out _ hW8
          have s5 := D5.out _ hW8
          have s6 := D6.out _ hW8
          have p0 := Z0.out _ hW8
          have p1 := Z1.out _ hW8
          clear D0 D1 D2 D3 D4 D5 D6 c5 c6 hW8
          have c5 := s5
          have c6 := s6
          go_wp2
          go_quiet (fail)
          go_upto_region 13 with fail
          clear c5 c6

          have KX := Lib.hid (fun W (h : SW w8 W) => sw_call (fun W2 h2 => KC.out x y HTQ.out HTK.out W2 (HB8.out.trans (Below.mono h2 HB8.out.size))) W h)
          generalize cg x y = r at *
          have f0 : ∀ z : Wd (SW w8), z.w.cell? ⟨B, 0, none⟩ = some (Value.slice A l.length ca) := fun z => bel_get p0 _ z.ok
          have f1 : ∀ z : Wd (SW w8), z.w.cell? ⟨B, 1, none⟩ = some (Value.slice D ds.length cd) := fun z => bel_get p1 _ z.ok
          have u0 : ∀ z : Wd (SW w8), z.w.cell? ⟨bb, off + (q + 1) * 7, none⟩ = some (Value.string y.car) := fun z => bel_get s0 _ z.ok
          have v0 : ∀ z : Wd (SW w8), z.w.cell? ⟨bb, off + q * 7, none⟩ = some (Value.string x.car) := fun z => bel_get t0 _ z.ok
          have u1 : ∀ z : Wd (SW w8), z.w.cell? ⟨bb, off + (q + 1) * 7 + 1, none⟩ = some (Value.int .i64 y.num) := fun z => bel_get s1 _ z.ok
          have v1 : ∀ z : Wd (SW w8), z.w.cell? ⟨bb, off + q * 7 + 1, none⟩ = some (Value.int .i64 x.num) := fun z => bel_get t1 _ z.ok
          have u2 : ∀ z : Wd (SW w8), z.w.cell? ⟨bb, off + (q + 1) * 7 + 2, none⟩ = some (Value.int .i64 y.day) := fun z => bel_get s2 _ z.ok
          have v2 : ∀ z : Wd (SW w8), z.w.cell? ⟨bb, off + q * 7 + 2, none⟩ = some (Value.int .i64 x.day) := fun z => bel_get t2 _ z.ok
          have u3 : ∀ z : Wd (SW w8), z.w.cell? ⟨bb, off + (q + 1) * 7 + 3, none⟩ = some (Value.string y.f) := fun z => bel_get s3 _ z.ok
          have v3 : ∀ z : Wd (SW w8), z.w.cell? ⟨bb, off + q * 7 + 3, none⟩ = some (Value.string x.f) := fun z => bel_get t3 _ z.ok
          have u4 : ∀ z : Wd (SW w8), z.w.cell? ⟨bb, off + (q + 1) * 7 + 4, none⟩ = some (Value.string y.t) := fun z => bel_get s4 _ z.ok
          have v4 : ∀ z : Wd (SW w8), z.w.cell? ⟨bb, off + q * 7 + 4, none⟩ = some (Value.string x.t) := fun z => bel_get t4 _ z.ok
          have u5 : ∀ z : Wd (SW w8), z.w.cell? ⟨bb, off + (q + 1) * 7 + 5, none⟩ = some (Value.int .i64 y.dep) := fun z => bel_get s5 _ z.ok
          have v5 : ∀ z : Wd (SW w8), z.w.cell? ⟨bb, off + q * 7 + 5, none⟩ = some (Value.int .i64 x.dep) := fun z => bel_get t5 _ z.ok
          have u6 : ∀ z : Wd (SW w8), z.w.cell? ⟨bb, off + (q + 1) * 7 + 6, none⟩ = some (Value.int .i64 y.arr) := fun z => bel_get s6 _ z.ok
          have v6 : ∀ z : Wd (SW w8), z.w.cell? ⟨bb, off + q * 7 + 6, none⟩ = some (Value.int .i64 x.arr) := fun z => bel_get t6 _ z.ok
          clear p0 p1 s0 s1 s2 s3 s4 s5 s6 t0 t1 t2 t3 t4 t5 t6
          have hS1 : SW w8 (w8.drewN nq).drew := (below_drewN (Below.refl _ _) nq).drew
          cases hr : (r != 0) with
          | true =>
            have HR : Hid (r = R) := Lib.hid (by rw [HR2.out, if_pos (by simpa using hr)])
            have hNe : Nonempty (Wd (SW w8)) := ⟨⟨_, hS1⟩⟩
            refine quietS (S := SW w8) (by kernel_rfl) (by kernel_rfl) (hS1) ?_
            repeat (first | go_big_quiet_skip | (go_big_quiet_want; go_big_quiet_op; first | go_big_quiet_on | go_big_quiet_call (((go_at_call 38; exact quiet_S (KX.out _ (Wd.ok _)))))))
            refine wpQuiet_nil ?_
            rintro W ⟨⟨_, hW⟩, rfl⟩
            clear f0 f1 u0 v0 u1 v1 u2 v2 u3 v3 u4 v4 u5 v5 u6 v6
            go_wp2
            go_ret
            exact ⟨ret_int HR.out, HB8.out.trans (Below.mono hW HB8.out.size)⟩
          | false =>
            have HR : Hid (R = vf (S.length - (q + 1 + 1)) (q + 1 + 1)) := Lib.hid (by rw [HR2.out, if_neg (by simpa using hr)])
            have hNe : Nonempty (Wd (SW w8)) := ⟨⟨_, hS1⟩⟩
            refine quietS (S := SW w8) (by kernel_rfl) (by kernel_rfl) (hS1) ?_
            repeat (first | go_big_quiet_skip | (go_big_quiet_want; go_big_quiet_op; first | go_big_quiet_on | go_big_quiet_call (((go_at_call 38; exact quiet_S (KX.out _ (Wd.ok _)))))))
            refine wpQuiet_nil ?_
            rintro W ⟨⟨_, hW⟩, rfl⟩
            clear f0 f1 u0 v0 u1 v1 u2 v2 u3 v3 u4 v4 u5 v5 u6 v6
            go_wp2
            go_roundw
            case rel => exact ⟨q + 1 + 1, by omega, by go_num, HR, Below.trans HW8.out (Below.mono hW HW8.out.size)⟩
            case measure => simp [intOf]; omega
    · have e : k = S.length := by omega
      subst e
      have HR : Hid (0 = R) := Lib.hid (by rw [HK.out, Nat.sub_self, HF0.out])
      have i2 : ¬ (S.length : Int) < (S.length : Int) := by omega
      go_wp2
      go_ret
      exact ⟨ret_int HR.out, HBX.out.trans (Below.mono hW5 HBX.out.size)⟩

end Go.Proofs.YtimemdakmppcnaaDoor.Con


/- Walk of the law ConnectValid. -/
namespace Go.Proofs.YtimemdakmppcnaaDoor.Con
open Go.RowKit Go.Shelf
set_option linter.unusedSimpArgs false
set_option linter.unusedVariables false

set_option maxRecDepth 100000 in
set_option maxHeartbeats 8000000 in
theorem farN_any (v : Value) (l : List Sg) (w : World) (hv : SgL w v l) (hn : l.length < 9223372036854775808) : Calls Tryd.prog 8 #[v] w fun e w' => e = .returned (.bool (farB l)) ∧ Below w.heap.size w w' := by
  obtain ⟨A, c, rfl, _⟩ := id hv
  have HV := Lib.hid hv
  clear hv
  have HI : Hid (farB (l.take 0) = false) := Lib.hid rfl
  go_enter Tryd.func8, Tryd.ntmps8
  go_wp2
  go_loopg [3] l.length (fun kx vi wr => ∃ (k : Nat), vi = .int .i64 k ∧ k + kx = l.length ∧ Hid (farB (l.take k) = false) ∧ SW w wr)
  case atStart => exact ⟨0, rfl, by omega, HI, Below.refl _ _⟩
  case round =>
    obtain ⟨k, rfl, hkx, HK, hS⟩ := hrel
    have HKX := Lib.hid hkx
    by_cases hlt : k < l.length
    · obtain ⟨x, hx⟩ : ∃ x, l[k]? = some x := ⟨_, List.getElem?_eq_getElem hlt⟩
      obtain ⟨bb, off, e1, hbl, hc⟩ := row_get (HV.out.more hS) hx
      cases e1
      have i2 : (k : Int) < (l.length : Int) := by omega
      have d0 := hc 0 _ rfl
      have d1 := hc 1 _ rfl
      have d2 := hc 2 _ rfl
      have d3 := hc 3 _ rfl
      have d4 := hc 4 _ rfl
      have d5 := hc 5 _ rfl
      have d6 := hc 6 _ rfl
      rw [Nat.add_zero] at d0
      have HS : Hid (farB (l.take (k + 1)) = (decide (min x.dep x.arr < -1099511627776) || decide (max x.dep x.arr > 1099511627776))) := Lib.hid (by rw [List.take_add_one, hx]; exact (farB_snoc _ _).trans (by rw [HK.out]; rfl))
      have HM := Lib.hid (List.mem_of_getElem? hx)
      have hb1 := bel_alloc wr (.cells #[.string x.car, .int .i64 x.num, .int .i64 x.day, .string x.f, .string x.t, .int .i64 x.dep, .int .i64 x.arr] sgT)
      have q5 := (cells_new wr #[.string x.car, .int .i64 x.num, .int .i64 x.day, .string x.f, .string x.t, .int .i64 x.dep, .int .i64 x.arr] sgT 5).trans (show _ = some (Value.int .i64 x.dep) from rfl)
      have q6 := (cells_new wr #[.string x.car, .int .i64 x.num, .int .i64 x.day, .string x.f, .string x.t, .int .i64 x.dep, .int .i64 x.arr] sgT 6).trans (show _ = some (Value.int .i64 x.arr) from rfl)
      have HS1 := Lib.hid (show SW w (wr.alloc (.cells #[.string x.car, .int .i64 x.num, .int .i64 x.day, .string x.f, .string x.t, .int .i64 x.dep, .int .i64 x.arr] sgT)) from Below.alloc hS hS.size _)
      clear hx hc hbl hkx hb1 hS
      cases h1 : decide (min x.dep x.arr < -1099511627776) with
      | true =>
        have h1' : min x.dep x.arr < -1099511627776 := of_decide_eq_true h1
        have HR : Hid (true = farB l) := Lib.hid (farB_of HM.out (by rw [h1]; rfl)).symm
        go_wp2
        all_goals first
          | (exfalso; omega)
          | (go_ret; exact ⟨ret_bool HR.out, HS1.out⟩)
      | false =>
        have h1' : ¬ min x.dep x.arr < -1099511627776 := of_decide_eq_false h1
        cases h2 : decide (max x.dep x.arr > 1099511627776) with
        | true =>
          have h2' : max x.dep x.arr > 1099511627776 := of_decide_eq_true h2
          have h2'' : 1099511627776 < max x.dep x.arr := h2'
          have HR : Hid (true = farB l) := Lib.hid (farB_of HM.out (by rw [h2, Bool.or_true])).symm
          go_wp2
          all_goals first
            | (exfalso; omega)
            | (go_ret; exact ⟨ret_bool HR.out, HS1.out⟩)
        | false =>
          have h2' : ¬ 1099511627776 < max x.dep x.arr := of_decide_eq_false h2
          have HR : Hid (farB (l.take (k + 1)) = false) := Lib.hid (by rw [HS.out, h1, h2]; rfl)
          go_wp2
          all_goals first
            | (exfalso; omega)
            | (go_roundg (l.length - (k + 1))
               case measure => have := HKX.out; omega
               case rel => exact ⟨k + 1, by go_num, by have := HKX.out; omega, HR, HS1.out⟩)
    · have HR : Hid (false = farB l) := Lib.hid (by rw [← HK.out, show l.take k = l from List.take_of_length_le (by omega)])
      have i2 : ¬ (k : Int) < (l.length : Int) := by omega
      go_wp2
      go_ret
      exact ⟨ret_bool HR.out, hS⟩
theorem chk_nil {p : PV} (h : chkP p = []) : (∀ (k : Nat) (a : Air), p.l[k]? = some a → okE (airE (p.l.take k) a) = []) := by
  intro k a hk
  have h1 : airF p.l p.l.length = [] := (List.append_eq_nil_iff.1 h).1
  unfold airF at h1
  rw [List.flatMap_eq_nil_iff] at h1
  have := h1 k (List.mem_range.2 (List.getElem?_eq_some_iff.1 hk).1)
  rw [hk] at this
  unfold pick at this
  exact List.map_eq_nil_iff.1 this
theorem chk_few {p : PV} (h : chkP p = []) : ∀ a ∈ p.l, a.shs.length ≤ 300 := by
  intro a ha
  obtain ⟨k, hk⟩ := List.getElem?_of_mem ha
  have h1 := chk_nil h k a hk
  have h2 := List.filter_eq_nil_iff.1 h1 (errZ a.off a.shs) (by simp [airE])
  exact Nat.le_trans (errZ_ok (by simpa using h2)).len (by omega)

set_option maxRecDepth 100000 in
set_option maxHeartbeats 16000000 in
theorem connectValid_walk (p : PV) (A : Option Addr) (c : Nat) (l : List Cn) (As : Option Addr) (cs : Nat) (S : List Sg) (w : World) (hP : PlL w p) (oA : ∀ a ∈ p.l, OkA a) (oD : ∀ d ∈ p.ds, OkD d)
    (hv : CnL w (.slice A l.length c) l) (hs : SgL w (.slice As S.length cs) S) (hs63 : S.length < 9223372036854775808) :
    Calls Tryd.prog 4 #[encP p, .slice A l.length c, .slice As S.length cs] w fun e w' => e = .returned (.bool true) ∧ Below w.heap.size w w' := by
  have hb := bel_alloc w (.cells #[.slice p.A p.l.length p.ca, .slice p.D p.ds.length p.cd] placesT)
  have p0 := (cells_new w #[.slice p.A p.l.length p.ca, .slice p.D p.ds.length p.cd] placesT 0).trans (show _ = some (Value.slice p.A p.l.length p.ca) from rfl)
  have p1 := (cells_new w #[.slice p.A p.l.length p.ca, .slice p.D p.ds.length p.cd] placesT 1).trans (show _ = some (Value.slice p.D p.ds.length p.cd) from rfl)
  have hP5 := hP.more hb
  have hv5 := hv.more hb
  have hs5 := hs.more hb
  have HB := Lib.hid hb
  go_enter Tryd.func4, Tryd.ntmps4
  go_upto_region 1 with fail
  generalize w.alloc (.cells #[.slice p.A p.l.length p.ca, .slice p.D p.ds.length p.cd] placesT) = w5 at *
  generalize hB : w.heap.size = B at *
  have Q0 := Lib.hid (bel_get p0)
  have Q1 := Lib.hid (bel_get p1)
  have KF : Hid (∀ W, SW w5 W → Calls Tryd.prog 8 #[.slice As S.length cs] W fun e w' => e = .returned (.bool (farB S)) ∧ SW w5 w') := Lib.hid (fun W h => (farN_any _ S W (hs5.more h) hs63).mono (by rintro e w' ⟨rfl, h2⟩; exact ⟨rfl, Below.trans h (Below.mono h2 h.size)⟩))
  have KK : Hid (∀ W, SW w5 W → Calls Tryd.prog 9 #[] W fun e w' => e = .returned (.bool true) ∧ SW w5 w') := Lib.hid (fun W h => (knows_any W).mono (by rintro e w' ⟨rfl, hb⟩; exact ⟨rfl, Below.trans h (Below.mono hb h.size)⟩))
  have KR : p.l.length ≤ 20 → p.ds.length ≤ 40 → Hid (∀ W, SW w5 W → Calls Tryd.prog 17 #[.agg #[.slice p.A p.l.length p.ca, .slice p.D p.ds.length p.cd]] W fun e w' => ∃ A' c', e = .returned (.slice A' (chkP p).length c') ∧ SW w5 w') := fun h1 h2 => Lib.hid (fun W h => (rcheck6_any p W ⟨oA, oD, by omega, by omega⟩ (hP5.more h)).mono (by
    rintro e w' ⟨v', rfl, hO, hb2⟩
    obtain ⟨A', c', rfl, _⟩ := hO.rowL rtF.len
    exact ⟨A', c', rfl, Below.trans h (Below.mono hb2 h.size)⟩))
  have KV : S.length ≤ 50 → l.length ≤ 100 → p.l.length ≤ 20 → farB S = false → chkP p = [] → Hid (∀ W, SW w5 W → Calls Tryd.prog 18 #[.agg #[.slice p.A p.l.length p.ca, .slice p.D p.ds.length p.cd], .slice A l.length c, .slice As S.length cs] W fun e w' => e = .returned (.int .i64 (valP p l S)) ∧ SW w5 w') := fun h1 h2 h3 h4 h5 => Lib.hid (fun W h => (valid_any p _ l _ S W ⟨by omega, chk_few h5⟩ (hP5.air.more h) (hv5.more h) (by omega) (hs5.more h) (by omega) (far_no h4)).mono (by rintro e w' ⟨rfl, hb⟩; exact ⟨rfl, Below.trans h (Below.mono hb h.size)⟩))
  have KRV : S.length ≤ 50 → l.length ≤ 100 → p.l.length ≤ 20 → farB S = false → chkP p = [] → Hid (∀ W, SW w5 W → Calls Tryd.prog 19 #[.agg #[.slice p.A p.l.length p.ca, .slice p.D p.ds.length p.cd], .slice A l.length c, .slice As S.length cs] W fun e w' => e = .returned (.int .i64 (valP p l S)) ∧ SW w5 w') := fun h1 h2 h3 h4 h5 => Lib.hid (fun W h => (rvalid_any p _ l _ S W ⟨by omega, chk_few h5⟩ (hP5.air.more h) (hv5.more h) (by omega) (hs5.more h) (by omega) (far_no h4)).mono (by rintro e w' ⟨rfl, hb⟩; exact ⟨rfl, Below.trans h (Below.mono hb h.size)⟩))
  have hS : SW w5 w5 := Below.refl _ _
  have q0 := Q0.out _ hS
  have q1 := Q1.out _ hS
  clear p0 p1 hP hv hs hP5 hv5 hs5 oA oD hb
  by_cases i1 : 100 < l.length
  · have j1 : (100 : Int) < (l.length : Int) := by omega
    clear KR KV KRV
    go_wp2_with (first
      | (go_at_call 8; refine (KF.out _ hS).mono ?_; rintro e w6 ⟨rfl, hS⟩; have q0 := Q0.out _ hS; have q1 := Q1.out _ hS)
      | (go_at_call 17; refine (KR.out _ hS).mono ?_; rintro e w7 ⟨A', c', rfl, hS⟩; have q0 := Q0.out _ hS; have q1 := Q1.out _ hS)
      | (go_at_call 9; refine (KK.out _ hS).mono ?_; rintro e w8 ⟨rfl, hS⟩))
    go_ret
    exact ⟨rfl, by first | exact HB.out.trans (Below.mono hS HB.out.size) | (rw [← hB] at HB; exact HB.out.trans (Below.mono hS HB.out.size))⟩
  have j1 : ¬ (100 : Int) < (l.length : Int) := by omega
  cases hf : farB S with
  | true =>
    rw [hf] at KF
    clear KR KV KRV
    go_wp2_with (first
      | (go_at_call 8; refine (KF.out _ hS).mono ?_; rintro e w6 ⟨rfl, hS⟩; have q0 := Q0.out _ hS; have q1 := Q1.out _ hS)
      | (go_at_call 17; refine (KR.out _ hS).mono ?_; rintro e w7 ⟨A', c', rfl, hS⟩; have q0 := Q0.out _ hS; have q1 := Q1.out _ hS)
      | (go_at_call 9; refine (KK.out _ hS).mono ?_; rintro e w8 ⟨rfl, hS⟩))
    go_ret
    exact ⟨rfl, by first | exact HB.out.trans (Below.mono hS HB.out.size) | (rw [← hB] at HB; exact HB.out.trans (Below.mono hS HB.out.size))⟩
  | false =>
  rw [hf] at KF
  by_cases i2 : 50 < S.length
  · have j2 : (50 : Int) < (S.length : Int) := by omega
    clear KR KV KRV
    go_wp2_with (first
      | (go_at_call 8; refine (KF.out _ hS).mono ?_; rintro e w6 ⟨rfl, hS⟩; have q0 := Q0.out _ hS; have q1 := Q1.out _ hS)
      | (go_at_call 17; refine (KR.out _ hS).mono ?_; rintro e w7 ⟨A', c', rfl, hS⟩; have q0 := Q0.out _ hS; have q1 := Q1.out _ hS)
      | (go_at_call 9; refine (KK.out _ hS).mono ?_; rintro e w8 ⟨rfl, hS⟩))
    go_ret
    exact ⟨rfl, by first | exact HB.out.trans (Below.mono hS HB.out.size) | (rw [← hB] at HB; exact HB.out.trans (Below.mono hS HB.out.size))⟩
  have j2 : ¬ (50 : Int) < (S.length : Int) := by omega
  by_cases i3 : 20 < p.l.length
  · have j3 : (20 : Int) < (p.l.length : Int) := by omega
    clear KR KV KRV
    go_wp2_with (first
      | (go_at_call 8; refine (KF.out _ hS).mono ?_; rintro e w6 ⟨rfl, hS⟩; have q0 := Q0.out _ hS; have q1 := Q1.out _ hS)
      | (go_at_call 17; refine (KR.out _ hS).mono ?_; rintro e w7 ⟨A', c', rfl, hS⟩; have q0 := Q0.out _ hS; have q1 := Q1.out _ hS)
      | (go_at_call 9; refine (KK.out _ hS).mono ?_; rintro e w8 ⟨rfl, hS⟩))
    go_ret
    exact ⟨rfl, by first | exact HB.out.trans (Below.mono hS HB.out.size) | (rw [← hB] at HB; exact HB.out.trans (Below.mono hS HB.out.size))⟩
  have j3 : ¬ (20 : Int) < (p.l.length : Int) := by omega
  by_cases i4 : 40 < p.ds.length
  · have j4 : (40 : Int) < (p.ds.length : Int) := by omega
    clear KR KV KRV
    go_wp2_with (first
      | (go_at_call 8; refine (KF.out _ hS).mono ?_; rintro e w6 ⟨rfl, hS⟩; have q0 := Q0.out _ hS; have q1 := Q1.out _ hS)
      | (go_at_call 17; refine (KR.out _ hS).mono ?_; rintro e w7 ⟨A', c', rfl, hS⟩; have q0 := Q0.out _ hS; have q1 := Q1.out _ hS)
      | (go_at_call 9; refine (KK.out _ hS).mono ?_; rintro e w8 ⟨rfl, hS⟩))
    go_ret
    exact ⟨rfl, by first | exact HB.out.trans (Below.mono hS HB.out.size) | (rw [← hB] at HB; exact HB.out.trans (Below.mono hS HB.out.size))⟩
  have j4 : ¬ (40 : Int) < (p.ds.length : Int) := by omega
  have KR := KR (by omega) (by omega)
  by_cases i5 : chkP p = []
  · have KV := KV (by omega) (by omega) (by omega) hf i5
    have KRV := KRV (by omega) (by omega) (by omega) hf i5
    rw [i5] at KR
    generalize valP p l S = vv at *
    clear hf i5 i1 i2 i3 i4 hs63
    go_upto_region 3 with (first
      | (go_at_call 8; refine (KF.out _ hS).mono ?_; rintro e w6 ⟨rfl, hS⟩; have q0 := Q0.out _ hS; have q1 := Q1.out _ hS)
      | (go_at_call 17; refine (KR.out _ hS).mono ?_; rintro e w7 ⟨A', c', rfl, hS⟩; have q0 := Q0.out _ hS; have q1 := Q1.out _ hS))
    have e1 : (vv == vv) = true := by simp
    have f0 := Q0.out
    have f1 := Q1.out
    have hS : (SW w5) _ := Below.drew hS
    refine wp_region_held_drew (S := SW w5) (by kernel_rfl) hS (fun _ => ?_)
    refine wpAnyH_take (i := 0) (v := ?vL0) rfl (by kernel_rfl) (by kernel_rfl) (by kernel_rfl) (fun _ _ _ h => h) (Or.inl ⟨by rfl, ?hyL0⟩) hS ?restL0
    case hyL0 =>
      intro w hSw
      have k0 := f0 w hSw; have k1 := f1 w hSw
      first | (go_simp; done) | (go_simp; with_reducible rfl)
    try simp only [Act.put, List.setIfInBounds_toArray, List.set_cons_zero, List.set_cons_succ]
    refine wpAnyH_take (i := 1) (v := ?vL1) rfl (by kernel_rfl) (by kernel_rfl) (by kernel_rfl) (fun _ _ _ h => h) (Or.inl ⟨by rfl, ?hyL1⟩) hS ?restL1
    case hyL1 =>
      intro w hSw
      first | (go_simp; done) | (go_simp; with_reducible rfl)
    try simp only [Act.put, List.setIfInBounds_toArray, List.set_cons_zero, List.set_cons_succ]
    refine wpAnyH_take (i := 2) (v := ?vL2) rfl (by kernel_rfl) (by kernel_rfl) (by kernel_rfl) (fun _ _ _ h => h) (Or.inl ⟨by rfl, ?hyL2⟩) hS ?restL2
    case hyL2 =>
      intro w hSw
      first | (go_simp; done) | (go_simp; with_reducible rfl)
    try simp only [Act.put, List.setIfInBounds_toArray, List.set_cons_zero, List.set_cons_succ]
    refine wpAnyH_take (i := 4) (v := ?vL4) rfl (by kernel_rfl) (by kernel_rfl) (by kernel_rfl) (fun _ _ _ h => h) (Or.inl ⟨by rfl, ?hyL4⟩) hS ?restL4
    case hyL4 =>
      intro w hSw
      have k0 := f0 w hSw; have k1 := f1 w hSw
      first | (go_simp; done) | (go_simp; with_reducible rfl)
    try simp only [Act.put, List.setIfInBounds_toArray, List.set_cons_zero, List.set_cons_succ]
    refine wpAnyH_take (i := 5) (v := ?vL5) rfl (by kernel_rfl) (by kernel_rfl) (by kernel_rfl) (fun _ _ _ h => h) (Or.inl ⟨by rfl, ?hyL5⟩) hS ?restL5
    case hyL5 =>
      intro w hSw
      first | (go_simp; done) | (go_simp; with_reducible rfl)
    try simp only [Act.put, List.setIfInBounds_toArray, List.set_cons_zero, List.set_cons_succ]
    refine wpAnyH_take (i := 6) (v := ?vL6) rfl (by kernel_rfl) (by kernel_rfl) (by kernel_rfl) (fun _ _ _ h => h) (Or.inl ⟨by rfl, ?hyL6⟩) hS ?restL6
    case hyL6 =>
      intro w hSw
      first | (go_simp; done) | (go_simp; with_reducible rfl)
    try simp only [Act.put, List.setIfInBounds_toArray, List.set_cons_zero, List.set_cons_succ]
    refine wpAnyH_ready (rs := [3]) (by kernel_rfl) (by simp) ?_
    refine AllReadyH.cons rfl (fun K hK => ?_) AllReadyH.nil
    go_simp
    go_wp2_with ((go_at_call 18; refine (KV.out _ hS).mono ?_; rintro e w9 ⟨rfl, hS⟩))
    refine hK.out _ _ hS (fun _ => ?_)
    clear hK K
    refine wpAnyH_ready (rs := [7]) (by kernel_rfl) (by simp) ?_
    refine AllReadyH.cons rfl (fun K hK => ?_) AllReadyH.nil
    go_simp
    go_wp2_with ((go_at_call 19; refine (KRV.out _ hS).mono ?_; rintro e w10 ⟨rfl, hS⟩))
    refine hK.out _ _ hS (fun _ => ?_)
    clear hK K
    refine wpAnyH_take (i := 8) (v := ?vL8) rfl (by kernel_rfl) (by kernel_rfl) (by kernel_rfl) (fun _ _ _ h => h) (Or.inl ⟨by rfl, ?hyL8⟩) hS ?restL8
    case hyL8 =>
      intro w hSw
      first | (go_simp; done) | (go_simp; with_reducible rfl)
    try simp only [Act.put, List.setIfInBounds_toArray, List.set_cons_zero, List.set_cons_succ]
    refine wpAnyH_take (i := 9) (v := ?vL9) rfl (by kernel_rfl) (by kernel_rfl) (by kernel_rfl) (fun _ _ _ h => h) (Or.inl ⟨by rfl, ?hyL9⟩) hS ?restL9
    case hyL9 =>
      intro w hSw
      first | (go_simp; done) | (go_simp; with_reducible rfl)
    try simp only [Act.put, List.setIfInBounds_toArray, List.set_cons_zero, List.set_cons_succ]
    refine wpAnyH_ready (rs := [10]) (by kernel_rfl) (by simp) ?_
    refine AllReadyH.cons rfl (fun K hK => ?_) AllReadyH.nil
    go_simp
    go_wp2_with ((go_at_call 9; refine (KK.out _ hS).mono ?_; rintro e w11 ⟨rfl, hS⟩))
    refine hK.out _ _ hS (fun _ => ?_)
    clear hK K
    refine wpAnyH_take (i := 11) (v := ?vL11) rfl (by kernel_rfl) (by kernel_rfl) (by kernel_rfl) (fun _ _ _ h => h) (Or.inl ⟨by rfl, ?hyL11⟩) hS ?restL11
    case hyL11 =>
      intro w hSw
      first | (go_simp; done) | (go_simp; with_reducible rfl)
    try simp only [Act.put, List.setIfInBounds_toArray, List.set_cons_zero, List.set_cons_succ]
    refine wpAnyH_take (i := 12) (v := ?vL12) rfl (by kernel_rfl) (by kernel_rfl) (by kernel_rfl) (fun _ _ _ h => h) (Or.inl ⟨by rfl, ?hyL12⟩) hS ?restL12
    case hyL12 =>
      intro w hSw
      first | (go_simp; done) | (go_simp; with_reducible rfl)
    try simp only [Act.put, List.setIfInBounds_toArray, List.set_cons_zero, List.set_cons_succ]
    refine wpAnyH_done (by kernel_rfl) ?_ _
    simp only [List.getElem_toArray, List.getElem_cons_succ, List.getElem_cons_zero, List.set_cons_zero, List.set_cons_succ]
    try simp only [List.setIfInBounds_toArray, List.set_cons_zero, List.set_cons_succ]
    go_wp2
    go_ret
    exact ⟨by first | rfl | exact ret_bool (by simp) | (simp; done) | (simp [go_sem]; done), by first | exact HB.out.trans (Below.mono hS HB.out.size) | (rw [← hB] at HB; exact HB.out.trans (Below.mono hS HB.out.size))⟩
  · have j5 : (0 : Int) < ((chkP p).length : Int) := by have := List.length_pos_iff.2 i5; omega
    clear KV KRV
    go_wp2_with (first
      | (go_at_call 8; refine (KF.out _ hS).mono ?_; rintro e w6 ⟨rfl, hS⟩; have q0 := Q0.out _ hS; have q1 := Q1.out _ hS)
      | (go_at_call 17; refine (KR.out _ hS).mono ?_; rintro e w7 ⟨A', c', rfl, hS⟩; have q0 := Q0.out _ hS; have q1 := Q1.out _ hS)
      | (go_at_call 9; refine (KK.out _ hS).mono ?_; rintro e w8 ⟨rfl, hS⟩))
    go_ret
    exact ⟨rfl, by first | exact HB.out.trans (Below.mono hS HB.out.size) | (rw [← hB] at HB; exact HB.out.trans (Below.mono hS HB.out.size))⟩
end Go.Proofs.YtimemdakmppcnaaDoor.Con

/- What all the rows of this seat ask besides the walks: a world for the witness; arguments opened (places, texts, lists of texts). -/
namespace Go.Proofs.YtimemdakmppcnaaDoor
open Go.ChangeShapes Go.WideShapes Go.ChangeAt Go.RowKit
set_option linter.unusedSimpArgs false
set_option linter.unusedVariables false

theorem own : ownKnob Tryd.prog.godebug = none := by kernel_rfl
theorem laidOut : laidOutB Tryd.prog = true := by kernel_rfl
/-- the listed variables are not asked for -/
def Env (_ : World) : Prop := True
theorem env_of {W : World} (h : laidMetH Tryd.prog Rows.connectTimesRow.laid W) : Env W := trivial

/-! ### A world for the witness -/
noncomputable def low : Nat := (World.holding Tryd.prog default ⟨#[], #[], []⟩).heap.size
def putCells (cs : Array Value) : Obj → Obj
  | .cells _ t frozen => .cells cs t frozen
  | o => o
def litsOf (k : IntKind) : DataW Unit → List Value
  | .agg ps => ps.map fun | .lit (.int _ z) => .int k z | _ => .int k 0
  | _ => []
noncomputable def laidWorld (os : Os) : World :=
  let w0 := World.holding Tryd.prog os ⟨#[], #[], []⟩
  let h3 := w0.heap.modify 0 (putCells (litsOf .u64 Rows.laid_internal_strconv_uint64pow10).toArray)
  let h4 := h3.modify 1 (putCells (litsOf .u8 Rows.laid_math_bits_deBruijn32tab).toArray)
  let h5 := h4.modify 2 (putCells (litsOf .u8 Rows.laid_math_bits_deBruijn64tab).toArray)
  { w0 with heap := h5 }
theorem laidWorld_met (os : Os) (args : Array Value) : laidMet Tryd.prog Rows.connectTimesRow.laid ((laidWorld os).forCall (fun _ _ => 0) ⟨#[], args, []⟩).memory :=
  laidMet_of_run3 8 (by kernel_rfl) (by kernel_rfl) (by kernel_rfl)

/-! ### Places among the arguments -/
theorem int_bounds {a : Int} (h : (Lit.int .i64 a).wf = true) : -9223372036854775808 ≤ a ∧ a ≤ 9223372036854775807 := by
  have e1 : IntKind.i64.min = -9223372036854775808 := rfl
  have e2 : IntKind.i64.max = 9223372036854775807 := rfl
  simp only [Lit.wf, e1, e2, Bool.and_eq_true, decide_eq_true_eq] at h
  omega
theorem bytes_string : Tryd.prog.bytesOf 9 = 16 := by kernel_rfl
theorem cells_string : Tryd.prog.cellsOf 9 = 1 := by kernel_rfl
theorem cells_int : Tryd.prog.cellsOf 3 = 1 := by kernel_rfl
theorem cells_shift : Tryd.prog.cellsOf 109 = 2 := by kernel_rfl
theorem cells_zone : Tryd.prog.cellsOf 51 = 2 := by kernel_rfl
theorem cells_shs : Tryd.prog.cellsOf 49 = 1 := by kernel_rfl
theorem cells_air : Tryd.prog.cellsOf 53 = 5 := by kernel_rfl
theorem cells_dst : Tryd.prog.cellsOf 95 = 3 := by kernel_rfl
theorem cells_places : Tryd.prog.cellsOf 36 = 2 := by kernel_rfl
theorem sized_str {H : Type} {P : Program} {ts : List TypeId} {ds : List (DataW H)} (h : (DataW.weightsEach P ts ds).all (· ≤ reachBytes) = true) {j : Nat} {t : TypeId} {s : ByteArray} (ht : ts[j]? = some t) (hd : ds[j]? = some (.lit (.string s.data.toList))) : s.size ≤ 140737488355328 := by
  have h1 := sized_string h ht hd
  have h2 := reachBytes_lt
  have e3 : (2 : Nat) ^ 47 = 140737488355328 := by decide
  have e1 : s.data.toList.length = s.size := Array.length_toList
  omega
theorem shs_at (f : Nat → Int × Int) (n i : Nat) (h : i < n) : ((List.range n).map f).getD i (0, 0) = f i := by
  rw [List.getD_eq_getElem?_getD, List.getElem?_map, List.getElem?_range h]; rfl
theorem open_shs {H : Type} {enc : TypeId × Value → H} {W : World} {n : Nat} {v : Value} {y : DataW H × List MemPlace} (h : DataW.trod enc Tryd.prog W 0 (fun _ => true) true n 49 [v] = some y) :
    ∃ (A : Option Addr) (c : Nat) (l : Shs), v = .slice A l.length c ∧ ShL W A l ∧ (∀ k, k < l.length → -9223372036854775808 ≤ shA l k ∧ shA l k ≤ 9223372036854775807) ∧ l.length < 9223372036854775808 := by
  rcases Deep.open_slice_pairs Tryd.underlying49 Tryd.underlying109 cells_shift rfl rfl cells_int cells_int h with ⟨hcs, rfl⟩ | ⟨a, len, cap, m', n, V0, V1, D0, D1, P0, P1, hcs, _, hl, hm, hmm, rfl, hx⟩
  · simp at hcs
    subst hcs
    exact ⟨none, 0, [], rfl, .inl rfl, fun k hk => by simp at hk, by simp⟩
  · simp at hcs
    subst hcs
    simp at hmm
    subst hmm
    have em : maxLen = 9223372036854775807 := by decide
    have each : ∀ i, i < m' → ∃ q : Int × Int, V0 i = .int .i64 q.1 ∧ V1 i = .int .i64 q.2 ∧ -9223372036854775808 ≤ q.1 ∧ q.1 ≤ 9223372036854775807 := fun i hi => by
      obtain ⟨_, _, g0, g1⟩ := hx i hi
      obtain ⟨x, e0, _, w0⟩ := DataW.trod_int Tryd.underlying3 g0
      obtain ⟨y, e1, _, w1⟩ := DataW.trod_int Tryd.underlying3 g1
      simp at e0 e1
      exact ⟨(x, y), e0, e1, int_bounds w0⟩
    obtain ⟨f, hf⟩ := Deep.choose_lt each
    have el : ((List.range len).map f).length = len := by simp
    refine ⟨some a, m', (List.range len).map f, by rw [el], ?_, ?_, by rw [el]; omega⟩
    · rcases Nat.eq_zero_or_pos len with h0 | h0
      · left; rw [h0]; rfl
      · right
        obtain ⟨b, off, spot⟩ := a
        have h1 := (hx 0 (by omega)).1
        have hspot : spot = none := by simpa [Addr.add] using World.cell?_spot h1
        subst hspot
        have hadd : ∀ i, (⟨b, off, none⟩ : Addr).add i = ⟨b, off + i, none⟩ := fun i => by unfold Addr.add; split <;> simp_all
        refine ⟨b, off, rfl, by simpa [Addr.add] using World.block_lt_of_cell? _ _ h1, fun i hi => ?_⟩
        rw [el] at hi
        obtain ⟨g0, g1, _, _⟩ := hx i (by omega)
        obtain ⟨e0, e1, _⟩ := hf i (by omega)
        rw [hadd, e0] at g0
        rw [hadd, e1] at g1
        unfold shA shF
        rw [shs_at f len i hi]
        exact ⟨g0, by rw [Nat.add_assoc]; exact g1⟩
    · intro k hk
      rw [el] at hk
      unfold shA
      rw [shs_at f len k hk]
      exact (hf k (by omega)).2.2
instance : Inhabited Air := ⟨airZ⟩
instance : Inhabited Dst := ⟨⟨noB, noB, 0⟩⟩
theorem len2 {α : Type} : ∀ {l : List α}, l.length = 2 → ∃ a b, l = [a, b]
  | [a, b], _ => ⟨a, b, rfl⟩
theorem len3 {α : Type} : ∀ {l : List α}, l.length = 3 → ∃ a b c, l = [a, b, c]
  | [a, b, c], _ => ⟨a, b, c, rfl⟩
theorem len4 {α : Type} : ∀ {l : List α}, l.length = 4 → ∃ a b c d, l = [a, b, c, d]
  | [a, b, c, d], _ => ⟨a, b, c, d, rfl⟩
theorem len5 {α : Type} : ∀ {l : List α}, l.length = 5 → ∃ a b c d e, l = [a, b, c, d, e]
  | [a, b, c, d, e], _ => ⟨a, b, c, d, e, rfl⟩
set_option maxRecDepth 100000 in
theorem open_air {H : Type} {enc : TypeId × Value → H} {W : World} {n b o : Nat} {cs : List Value} {y : DataW H × List MemPlace} (hc : W.cells? 0 ⟨b, o, none⟩ 5 = some cs) (h : DataW.trod enc Tryd.prog W 0 (fun _ => true) true n 53 cs = some y) :
    ∃ a : Air, AirAt W b o a ∧ OkA a := by
  obtain ⟨_, hlen, hcell⟩ := World.cells?_some hc
  obtain ⟨xs, k, _, _, _, hxl, hf⟩ := DataW.trod_struct Tryd.underlying53 h
  obtain ⟨y0, y1, y2, y3, rfl⟩ := len4 hxl
  obtain ⟨v0, v1, v2, v3, v4, rfl⟩ := len5 hlen
  all_goals
    have g0 := hf 0 _ rfl
    have g1 := hf 1 _ rfl
    have g2 := hf 2 _ rfl
    have g3 := hf 3 _ rfl
    simp [cells_string, cells_zone] at g0 g1 g2 g3
    obtain ⟨s0, e0, _, z0⟩ := DataW.trod_string Tryd.underlying9 g0
    obtain ⟨s1, e1, _, z1⟩ := DataW.trod_string Tryd.underlying9 g1
    obtain ⟨s2, e2, _, z2⟩ := DataW.trod_string Tryd.underlying9 g2
    obtain ⟨zs, k2, _, _, _, hzl, hz⟩ := DataW.trod_struct Tryd.underlying51 g3
    obtain ⟨u0, u1, rfl⟩ := len2 hzl
    all_goals
      have q0 := hz 0 _ rfl
      have q1 := hz 1 _ rfl
      simp [cells_int, cells_shs] at q0 q1
      obtain ⟨x, e3, _, w3⟩ := DataW.trod_int Tryd.underlying3 q0
      obtain ⟨A, c, l, e4, hL, hr, hl⟩ := open_shs q1
      simp at e0 e1 e2 e3
      subst e0 e1 e2 e3 e4
      have hadd : ∀ j, (⟨b, o, none⟩ : Addr).add j = ⟨b, o + j, none⟩ := fun j => by unfold Addr.add; split <;> simp_all
      have c0 := hcell 0 (by omega)
      have c1 := hcell 1 (by omega)
      have c2 := hcell 2 (by omega)
      have c3 := hcell 3 (by omega)
      have c4 := hcell 4 (by omega)
      rw [hadd] at c0 c1 c2 c3 c4
      exact ⟨⟨s0, s1, s2, x, A, c, l⟩, ⟨by simpa using c0, by simpa using c1, by simpa using c2, by simpa using c3, by simpa using c4, hL⟩, ⟨z0, z1, z2, hl, hr⟩⟩
set_option maxRecDepth 100000 in
theorem open_dst {H : Type} {enc : TypeId × Value → H} {W : World} {n b o : Nat} {cs : List Value} {y : DataW H × List MemPlace} (hc : W.cells? 0 ⟨b, o, none⟩ 3 = some cs) (h : DataW.trod enc Tryd.prog W 0 (fun _ => true) true n 95 cs = some y) :
    ∃ d : Dst, DstAt W b o d ∧ OkD d := by
  obtain ⟨_, hlen, hcell⟩ := World.cells?_some hc
  obtain ⟨xs, k, _, _, _, hxl, hf⟩ := DataW.trod_struct Tryd.underlying95 h
  obtain ⟨y0, y1, y2, rfl⟩ := len3 hxl
  obtain ⟨v0, v1, v2, rfl⟩ := len3 hlen
  all_goals
    have g0 := hf 0 _ rfl
    have g1 := hf 1 _ rfl
    have g2 := hf 2 _ rfl
    simp [cells_string, cells_int] at g0 g1 g2
    obtain ⟨s0, e0, _, z0⟩ := DataW.trod_string Tryd.underlying9 g0
    obtain ⟨s1, e1, _, z1⟩ := DataW.trod_string Tryd.underlying9 g1
    obtain ⟨x, e2, _, w2⟩ := DataW.trod_int Tryd.underlying3 g2
    simp at e0 e1 e2
    subst e0 e1 e2
    have hadd : ∀ j, (⟨b, o, none⟩ : Addr).add j = ⟨b, o + j, none⟩ := fun j => by unfold Addr.add; split <;> simp_all
    have c0 := hcell 0 (by omega)
    have c1 := hcell 1 (by omega)
    have c2 := hcell 2 (by omega)
    rw [hadd] at c0 c1 c2
    exact ⟨⟨s0, s1, x⟩, ⟨by simpa using c0, by simpa using c1, by simpa using c2⟩, ⟨z0, z1⟩⟩
theorem list_at {α : Type} (f : Nat → α) (n i : Nat) (a : α) (h : ((List.range n).map f)[i]? = some a) : i < n ∧ a = f i := by
  have hi : i < n := by have := (List.getElem?_eq_some_iff.1 h).1; simpa using this
  rw [List.getElem?_map, List.getElem?_range hi] at h
  exact ⟨hi, (Option.some.inj h).symm⟩
set_option maxRecDepth 100000 in
/-- places by value, opened -/
theorem open_places {H : Type} {enc : TypeId × Value → H} {W : World} {b0 : Nat} {v : Value} {d : DataW H} {p : List MemPlace} (hv : Value.okWide Tryd.prog W .any b0 36 v) (h : DataW.Trod enc Tryd.prog W 0 (fun _ => true) true 36 v d p) :
    ∃ pv : PV, v = encP pv ∧ PlL W pv ∧ (∀ a ∈ pv.l, OkA a) ∧ (∀ d ∈ pv.ds, OkD d) ∧ pv.l.length < 9223372036854775808 ∧ pv.ds.length < 9223372036854775808 := by
  have em : maxLen = 9223372036854775807 := by decide
  obtain ⟨v0, v1, y0, y1, m, rfl, rfl, rfl, hy0, hy1⟩ := Joins.open_agg2 Tryd.underlying36 (by kernel_rfl) cells_places hv h
  have hA : ∃ (A : Option Addr) (c : Nat) (l : List Air), v0 = .slice A l.length c ∧ AirL W A l ∧ (∀ a ∈ l, OkA a) ∧ l.length < 9223372036854775808 := by
    rcases Deep.open_slice Tryd.underlying33 hy0 with ⟨hcs, _⟩ | ⟨a, len, cap, m', n, D, Pl, hcs, _, hl, hm, hmm, _, hx⟩
    · simp at hcs
      exact ⟨none, 0, [], hcs, .inl rfl, fun a ha => by simp at ha, by simp⟩
    · simp at hcs hmm
      subst hcs hmm
      rcases Nat.eq_zero_or_pos len with h0 | h0
      · exact ⟨some a, m', [], by rw [h0]; rfl, .inl rfl, fun a ha => by simp at ha, by simp⟩
      obtain ⟨b, off, spot⟩ := a
      obtain ⟨cs0, hc0, _⟩ := hx 0 (by omega)
      have hspot : spot = none := by
        rw [cells_air] at hc0
        obtain ⟨_, hl0, hcell⟩ := World.cells?_some hc0
        have h1 := hcell 0 (by omega)
        rw [List.getElem?_eq_getElem (by omega)] at h1
        simpa [Addr.add] using World.cell?_spot h1
      subst hspot
      have hadd : ∀ i, (⟨b, off, none⟩ : Addr).add i = ⟨b, off + i, none⟩ := fun i => by unfold Addr.add; split <;> simp_all
      have each : ∀ i, i < len → ∃ a : Air, AirAt W b (off + i * 5) a ∧ OkA a := fun i hi => by
        obtain ⟨cs', h1, h2⟩ := hx i (by omega)
        rw [cells_air, hadd] at h1
        exact open_air h1 h2
      obtain ⟨f, hf⟩ := Deep.choose_lt each
      have el : ((List.range len).map f).length = len := by simp
      refine ⟨some ⟨b, off, none⟩, m', (List.range len).map f, by rw [el], .inr ⟨b, off, rfl, World.block_lt_of_cell? _ _ (hf 0 h0).1.c0, fun i a hi => ?_⟩, fun a ha => ?_, by rw [el]; omega⟩
      · obtain ⟨h1, rfl⟩ := list_at f len i a hi
        exact (hf i h1).1
      · obtain ⟨i, hi, rfl⟩ := List.mem_map.1 ha
        exact (hf i (List.mem_range.1 hi)).2
  have hD : ∃ (A : Option Addr) (c : Nat) (l : List Dst), v1 = .slice A l.length c ∧ DstL W A l ∧ (∀ a ∈ l, OkD a) ∧ l.length < 9223372036854775808 := by
    rcases Deep.open_slice Tryd.underlying34 hy1 with ⟨hcs, _⟩ | ⟨a, len, cap, m', n, D, Pl, hcs, _, hl, hm, hmm, _, hx⟩
    · simp at hcs
      exact ⟨none, 0, [], hcs, .inl rfl, fun a ha => by simp at ha, by simp⟩
    · simp at hcs hmm
      subst hcs hmm
      rcases Nat.eq_zero_or_pos len with h0 | h0
      · exact ⟨some a, m', [], by rw [h0]; rfl, .inl rfl, fun a ha => by simp at ha, by simp⟩
      obtain ⟨b, off, spot⟩ := a
      obtain ⟨cs0, hc0, _⟩ := hx 0 (by omega)
      have hspot : spot = none := by
        rw [cells_dst] at hc0
        obtain ⟨_, hl0, hcell⟩ := World.cells?_some hc0
        have h1 := hcell 0 (by omega)
        rw [List.getElem?_eq_getElem (by omega)] at h1
        simpa [Addr.add] using World.cell?_spot h1
      subst hspot
      have hadd : ∀ i, (⟨b, off, none⟩ : Addr).add i = ⟨b, off + i, none⟩ := fun i => by unfold Addr.add; split <;> simp_all
      have each : ∀ i, i < len → ∃ a : Dst, DstAt W b (off + i * 3) a ∧ OkD a := fun i hi => by
        obtain ⟨cs', h1, h2⟩ := hx i (by omega)
        rw [cells_dst, hadd] at h1
        exact open_dst h1 h2
      obtain ⟨f, hf⟩ := Deep.choose_lt each
      have el : ((List.range len).map f).length = len := by simp
      refine ⟨some ⟨b, off, none⟩, m', (List.range len).map f, by rw [el], .inr ⟨b, off, rfl, World.block_lt_of_cell? _ _ (hf 0 h0).1.c0, fun i a hi => ?_⟩, fun a ha => ?_, by rw [el]; omega⟩
      · obtain ⟨h1, rfl⟩ := list_at f len i a hi
        exact (hf i h1).1
      · obtain ⟨i, hi, rfl⟩ := List.mem_map.1 ha
        exact (hf i (List.mem_range.1 hi)).2
  obtain ⟨A, ca, l, rfl, h1, h2, h3⟩ := hA
  obtain ⟨D, cd, ds, rfl, h4, h5, h6⟩ := hD
  exact ⟨⟨A, ca, l, D, cd, ds⟩, rfl, ⟨h1, h4⟩, h2, h5, h3, h6⟩

/-! ### A list of texts among the arguments -/
theorem weights_strs {P : Program} {H : Type} {e : TypeId} : ∀ {l : List ByteArray} {s : ByteArray}, s ∈ l → s.size ∈ DataW.weightsAll P e (strs l : List (DataW H))
  | a :: r, s, h => by
    simp only [strs, List.map_cons, DataW.weightsAll, List.mem_append]
    rcases List.mem_cons.1 h with rfl | h
    · left
      simp [DataW.weights]
    · right
      exact weights_strs h
theorem open_strL {H : Type} {enc : TypeId × Value → H} {P : Program} {W : World} {t e : TypeId} (ht : P.underlying t = some (.slice e)) (he : P.underlying e = some .string) (hc : P.cellsOf e = 1) (hb : P.bytesOf e = 16)
    {A : Option Addr} {n c : Nat} {d : DataW H} {p : List MemPlace} (h : DataW.Trod enc P W 0 (fun _ => true) true t (.slice A n c) d p)
    {ts : List TypeId} {ds : List (DataW H)} (hsz : (DataW.weightsEach P ts ds).all (· ≤ reachBytes) = true) {j : Nat} (hj : ts[j]? = some t) (hd : ds[j]? = some d) :
    ∃ ss : List ByteArray, n = ss.length ∧ StrL W (.slice A ss.length c) ss ∧ ss.length ≤ 140737488355328 ∧ ∀ s ∈ ss, s.size ≤ 140737488355328 := by
  have hr := reachBytes_lt
  have e3 : (2 : Nat) ^ 47 = 140737488355328 := by decide
  obtain ⟨fuel, hf⟩ := h
  rcases open_strings ht he hc hf with ⟨hcs, _⟩ | ⟨a, len, cap, ss, hcs, _, hl, hm, hz, hx, hcell, _⟩
  · simp [Value.cells] at hcs
    obtain ⟨rfl, rfl, rfl⟩ := hcs
    exact ⟨[], rfl, ⟨none, 0, rfl, .inl rfl⟩, by simp, by simp⟩
  · simp [Value.cells] at hcs
    obtain ⟨rfl, rfl, rfl⟩ := hcs
    simp at hz
    have hlen : (ss.take n).length = n := by rw [List.length_take]; omega
    injection hx with hx _
    subst hx
    have w1 := sized_slice hsz hj hd ht
    rw [hb] at w1
    have el : (strs (H := H) (ss.take n)).length = n := by rw [strs, List.length_map, hlen]
    refine ⟨ss.take n, hlen.symm, ?_, by omega, fun s hs => ?_⟩
    · rw [hlen]
      refine ⟨some a, c, by rw [hlen], ?_⟩
      rcases Nat.eq_zero_or_pos n with h0 | h0
      · left
        rw [h0]; rfl
      · right
        obtain ⟨b, off, spot⟩ := a
        have h1 := hcell 0 (by omega)
        have hspot : spot = none := by simpa [Addr.add] using World.cell?_spot h1
        subst hspot
        refine ⟨b, off, rfl, World.block_lt_of_cell? _ _ h1, fun i hi => ?_⟩
        have h2 := hcell i (by omega)
        rw [List.getElem_take]
        have : ss.getD i ByteArray.empty = ss[i]'(by omega) := by rw [List.getD_eq_getElem?_getD, List.getElem?_eq_getElem (by omega)]; rfl
        rw [this] at h2
        have hadd : (⟨b, off, none⟩ : Addr).add i = ⟨b, off + i, none⟩ := by unfold Addr.add; split <;> simp_all
        rw [hadd] at h2
        exact h2
    · have w2 := List.all_eq_true.1 hsz _ (DataW.weights_mem_each hj hd s.size (by
        simp only [DataW.weights, ht, List.mem_cons, List.mem_append]
        exact .inr (.inl (weights_strs hs))))
      simp at w2
      omega

/-! ### connecting times, a segment -/
open Con
theorem cells_cn : Tryd.prog.cellsOf 59 = 4 := by kernel_rfl
theorem cells_sgK : Tryd.prog.cellsOf 24 = 7 := by kernel_rfl
instance : Inhabited Cn := ⟨⟨noB, noB, noB, 0⟩⟩
instance : Inhabited Sg := ⟨sgZ⟩
structure OkCn (c : Cn) : Prop where
  a : c.a.size ≤ maxLen
  i : c.i.size ≤ maxLen
  o : c.o.size ≤ maxLen
theorem len7K {α : Type} : ∀ {l : List α}, l.length = 7 → ∃ a b c d e f g, l = [a, b, c, d, e, f, g]
  | [a, b, c, d, e, f, g], _ => ⟨a, b, c, d, e, f, g, rfl⟩
theorem array7K {α : Type} {cs : Array α} (h : cs.size = 7) : ∃ c0 c1 c2 c3 c4 c5 c6, cs = #[c0, c1, c2, c3, c4, c5, c6] := by
  obtain ⟨l⟩ := cs
  match l, h with
  | [c0, c1, c2, c3, c4, c5, c6], _ => exact ⟨c0, c1, c2, c3, c4, c5, c6, rfl⟩
set_option maxRecDepth 100000 in
theorem read_seg {H : Type} {enc : TypeId × Value → H} {W : World} {n : Nat} {c0 c1 c2 c3 c4 c5 c6 : Value} {y : DataW H × List MemPlace} (h : DataW.trod enc Tryd.prog W 0 (fun _ => true) true n 24 [c0, c1, c2, c3, c4, c5, c6] = some y) :
    ∃ sv : Sg, (#[c0, c1, c2, c3, c4, c5, c6] : Array Value) = #[.string sv.car, .int .i64 sv.num, .int .i64 sv.day, .string sv.f, .string sv.t, .int .i64 sv.dep, .int .i64 sv.arr] ∧ sv.f.size ≤ maxLen ∧ sv.t.size ≤ maxLen := by
  obtain ⟨xs, k, _, _, _, hxl, hf⟩ := DataW.trod_struct Tryd.underlying24 h
  obtain ⟨y0, y1, y2, y3, y4, y5, y6, rfl⟩ := len7K hxl
  all_goals
    have g0 := hf 0 _ rfl
    have g1 := hf 1 _ rfl
    have g2 := hf 2 _ rfl
    have g3 := hf 3 _ rfl
    have g4 := hf 4 _ rfl
    have g5 := hf 5 _ rfl
    have g6 := hf 6 _ rfl
    simp [cells_string, cells_int] at g0 g1 g2 g3 g4 g5 g6
    obtain ⟨s0, e0, _, z0⟩ := DataW.trod_string Tryd.underlying9 g0
    obtain ⟨x1, e1, _, w1⟩ := DataW.trod_int Tryd.underlying3 g1
    obtain ⟨x2, e2, _, w2⟩ := DataW.trod_int Tryd.underlying3 g2
    obtain ⟨s3, e3, _, z3⟩ := DataW.trod_string Tryd.underlying9 g3
    obtain ⟨s4, e4, _, z4⟩ := DataW.trod_string Tryd.underlying9 g4
    obtain ⟨x5, e5, _, w5⟩ := DataW.trod_int Tryd.underlying3 g5
    obtain ⟨x6, e6, _, w6⟩ := DataW.trod_int Tryd.underlying3 g6
    simp at e0 e1 e2 e3 e4 e5 e6
    subst e0 e1 e2 e3 e4 e5 e6
    exact ⟨⟨s0, x1, x2, s3, s4, x5, x6⟩, rfl, z3, z4⟩
set_option maxRecDepth 100000 in
/-- a segment by value, opened -/
theorem open_seg {H : Type} {enc : TypeId × Value → H} {W : World} {b0 : Nat} {v : Value} {d : DataW H} {p : List MemPlace} (hv : Value.okWide Tryd.prog W .any b0 24 v) (h : DataW.Trod enc Tryd.prog W 0 (fun _ => true) true 24 v d p) :
    ∃ sv : Sg, v = aggSg sv ∧ sv.f.size ≤ maxLen ∧ sv.t.size ≤ maxLen := by
  obtain ⟨cs, rfl, hsz⟩ := okWide_struct Tryd.underlying24 hv
  obtain ⟨c0, c1, c2, c3, c4, c5, c6, rfl⟩ := array7K (hsz.trans cells_sgK)
  obtain ⟨fuel, hf⟩ := h
  obtain ⟨sv, e, h2⟩ := read_seg hf
  exact ⟨sv, by rw [e], h2⟩
set_option maxRecDepth 100000 in
theorem read_cn {H : Type} {enc : TypeId × Value → H} {W : World} {n : Nat} {c0 c1 c2 c3 : Value} {y : DataW H × List MemPlace} (h : DataW.trod enc Tryd.prog W 0 (fun _ => true) true n 59 [c0, c1, c2, c3] = some y) :
    ∃ x : Cn, [c0, c1, c2, c3] = encCn x ∧ OkCn x := by
  obtain ⟨xs, k, _, _, _, hxl, hf⟩ := DataW.trod_struct Tryd.underlying59 h
  obtain ⟨y0, y1, y2, y3, rfl⟩ := len4 hxl
  all_goals
    have g0 := hf 0 _ rfl
    have g1 := hf 1 _ rfl
    have g2 := hf 2 _ rfl
    have g3 := hf 3 _ rfl
    simp [cells_string, cells_int] at g0 g1 g2 g3
    obtain ⟨s0, e0, _, z0⟩ := DataW.trod_string Tryd.underlying9 g0
    obtain ⟨s1, e1, _, z1⟩ := DataW.trod_string Tryd.underlying9 g1
    obtain ⟨s2, e2, _, z2⟩ := DataW.trod_string Tryd.underlying9 g2
    obtain ⟨x3, e3, _, w3⟩ := DataW.trod_int Tryd.underlying3 g3
    simp at e0 e1 e2 e3
    subst e0 e1 e2 e3
    exact ⟨⟨s0, s1, s2, x3⟩, rfl, ⟨z0, z1, z2⟩⟩

set_option maxRecDepth 100000 in
theorem read_rowK {α : Type} [Inhabited α] {sz : Nat} {enc' : α → List Value} {Ok : α → Prop} {H : Type} {enc : TypeId × Value → H} {W : World} {n : Nat} {v : Value} {y : DataW H × List MemPlace} {ts te : TypeId} (hu : Tryd.prog.underlying ts = some (.slice te)) (hce : Tryd.prog.cellsOf te = sz) (h1 : 0 < sz) (he : ∀ x, (enc' x).length = sz)
    (hread : ∀ m cs yy, cs.length = sz → DataW.trod enc Tryd.prog W 0 (fun _ => true) true m te cs = some yy → ∃ x : α, cs = enc' x ∧ Ok x) (h : DataW.trod enc Tryd.prog W 0 (fun _ => true) true n ts [v] = some y) :
    ∃ (A : Option Addr) (c : Nat) (l : List α), v = .slice A l.length c ∧ RowL sz enc' W (.slice A l.length c) l ∧ (∀ f ∈ l, Ok f) ∧ l.length < 9223372036854775808 := by
  have em : maxLen = 9223372036854775807 := by decide
  rcases Deep.open_slice hu h with ⟨hcs, _⟩ | ⟨a, len, cap, m', n, D, Pl, hcs, _, hl, hm, hmm, _, hx⟩
  · simp at hcs
    exact ⟨none, 0, [], hcs, ⟨none, 0, rfl, .inl rfl⟩, fun a ha => by simp at ha, by simp⟩
  · simp at hcs hmm
    subst hcs hmm
    rcases Nat.eq_zero_or_pos len with h0 | h0
    · exact ⟨some a, m', [], by rw [h0]; rfl, ⟨some a, m', rfl, .inl rfl⟩, fun a ha => by simp at ha, by simp⟩
    obtain ⟨b, off, spot⟩ := a
    obtain ⟨cs0, hc0, _⟩ := hx 0 (by omega)
    have hspot : spot = none := by
      rw [hce] at hc0
      obtain ⟨_, hl0, hcell⟩ := World.cells?_some hc0
      have h1 := hcell 0 (by omega)
      rw [List.getElem?_eq_getElem (by omega)] at h1
      simpa [Addr.add] using World.cell?_spot h1
    subst hspot
    have hadd : ∀ i, (⟨b, off, none⟩ : Addr).add i = ⟨b, off + i, none⟩ := fun i => by unfold Addr.add; split <;> simp_all
    have each : ∀ i, i < len → ∃ x : α, (∀ j u, (enc' x)[j]? = some u → W.cell? ⟨b, off + i * sz + j, none⟩ = some u) ∧ Ok x := fun i hi => by
      obtain ⟨cs', h1, h2⟩ := hx i (by omega)
      rw [hce, hadd] at h1
      obtain ⟨_, hlen, hcell⟩ := World.cells?_some h1
      obtain ⟨x, e, hok⟩ := hread _ _ _ hlen h2
      rw [e] at hcell
      refine ⟨x, fun j u hu => ?_, hok⟩
      have hj : j < sz := by have := (List.getElem?_eq_some_iff.1 hu).1; rw [he] at this; exact this
      have hadd2 : ∀ i, (⟨b, off + i * sz, none⟩ : Addr).add j = ⟨b, off + i * sz + j, none⟩ := fun i => by unfold Addr.add; split <;> simp_all
      have hc2 := hcell j hj
      rw [hadd2] at hc2
      rw [hc2]
      exact hu
    obtain ⟨f, hf⟩ := Deep.choose_lt each
    have el : ((List.range len).map f).length = len := by simp
    have hlt : b < W.heap.size := by
      have h3 := (hf 0 h0).1 0 ((enc' (f 0))[0]'(by rw [he]; exact h1)) (List.getElem?_eq_getElem _)
      exact World.block_lt_of_cell? _ _ h3
    refine ⟨some ⟨b, off, none⟩, m', (List.range len).map f, by rw [el], ⟨some ⟨b, off, none⟩, m', rfl, .inr ⟨b, off, rfl, hlt, fun i x j u hi hu => ?_⟩⟩, fun a ha => ?_, by rw [el]; omega⟩
    · obtain ⟨h1, rfl⟩ := list_at f len i x hi
      exact (hf i h1).1 j u hu
    · obtain ⟨i, hi, rfl⟩ := List.mem_map.1 ha
      exact (hf i (List.mem_range.1 hi)).2
set_option maxRecDepth 100000 in
/-- a list of connecting times by value, opened -/
theorem open_connects {H : Type} {enc : TypeId × Value → H} {W : World} {b0 : Nat} {v : Value} {d : DataW H} {p : List MemPlace} (hv : Value.okWide Tryd.prog W .any b0 22 v) (h : DataW.Trod enc Tryd.prog W 0 (fun _ => true) true 22 v d p) :
    ∃ (A : Option Addr) (c : Nat) (l : List Cn), v = .slice A l.length c ∧ CnL W (.slice A l.length c) l ∧ (∀ x ∈ l, OkCn x) ∧ l.length < 9223372036854775808 := by
  obtain ⟨a, len, cap, rfl⟩ := okWide_slice Tryd.underlying22 hv
  obtain ⟨fuel, hf⟩ := h
  refine read_rowK (enc' := encCn) (Ok := OkCn) Tryd.underlying22 cells_cn (by omega) (fun _ => rfl) (fun m cs yy hl h => ?_) hf
  obtain ⟨c0, c1, c2, c3, rfl⟩ := len4 hl
  exact read_cn h
set_option maxRecDepth 100000 in
/-- a list of segments by value, opened -/
theorem open_segs {H : Type} {enc : TypeId × Value → H} {W : World} {b0 : Nat} {v : Value} {d : DataW H} {p : List MemPlace} (hv : Value.okWide Tryd.prog W .any b0 26 v) (h : DataW.Trod enc Tryd.prog W 0 (fun _ => true) true 26 v d p) :
    ∃ (A : Option Addr) (c : Nat) (l : List Sg), v = .slice A l.length c ∧ SgL W (.slice A l.length c) l ∧ (∀ x ∈ l, x.f.size ≤ maxLen ∧ x.t.size ≤ maxLen) ∧ l.length < 9223372036854775808 := by
  obtain ⟨a, len, cap, rfl⟩ := okWide_slice Tryd.underlying26 hv
  obtain ⟨fuel, hf⟩ := h
  refine read_rowK (enc' := encSg) (Ok := fun x : Sg => x.f.size ≤ maxLen ∧ x.t.size ≤ maxLen) Tryd.underlying26 cells_sgK (by omega) (fun _ => rfl) (fun m cs yy hl h => ?_) hf
  obtain ⟨c0, c1, c2, c3, c4, c5, c6, rfl⟩ := len7K hl
  obtain ⟨sv, e, h2⟩ := read_seg h
  exact ⟨sv, congrArg Array.toList e, h2⟩
end Go.Proofs.YtimemdakmppcnaaDoor

/- Proved here, one card a law: airlinelaw11/ConnectValid return true at every input and leave what they were given as it was. Conditions: those of the given rows alone (the arguments within the form's reach; the listed library variables as their initialisers lay them). -/
namespace Go.Proofs.YtimemdakmppcnaaDoor
open Go.ChangeShapes Go.WideShapes Go.ChangeAt Go.RowKit
open Go.ChangeMaps (open_string shut_string)
set_option linter.unusedSimpArgs false
set_option linter.unusedVariables false

theorem connectValid_params : Tryd.f4.params = #[36, 22, 26] := by kernel_rfl
set_option maxRecDepth 100000 in
theorem connectValid_contract (H : Type) (enc : TypeId × Value → H) (W : World) (base : Nat) (args : Array Value) (ds gs : List (DataW H)) (before : List MemPlace)
    (hval0 : ∀ (j : Nat) t v, Tryd.f4.params[j]? = some t → args[j]? = some v → Value.okWide Tryd.prog W .any base t v)
    (hW : DataW.Whole enc Tryd.prog Tryd.f4.params.toList Rows.connectValidSpec.vars false W args.toList ds gs before)
    (hsz0 : (DataW.weightsEach Tryd.prog (Tryd.f4.params.toList ++ Rows.connectValidSpec.plain.varTypes Tryd.prog) (ds ++ gs)).all (· ≤ reachBytes) = true) (hL : laidMetH Tryd.prog Rows.connectValidRow.laid W) :
    Calls Tryd.prog 4 args W fun e W' => ∃ v, e = .returned v ∧ Rows.connectValidSpec.post enc Tryd.prog Tryd.f4 false true false false W args v W' := by
  have hE : Env W := env_of hL
  have hval := hval0
  have hsz := hsz0
  clear hval0 hsz0
  have hW' := hW
  obtain ⟨p, q, hA0, hV, rfl, hfz, hnd⟩ := hW
  have hA : DataW.TrodAll enc Tryd.prog W 0 (fun _ => true) true Tryd.f4.params.toList args.toList ds p := hA0
  rw [connectValid_params] at hA hval hsz
  obtain ⟨v0, vs0, d0, ds0, p0, q0, hargs, rfl, rfl, h0, r0⟩ := trodAll_cons hA
  obtain ⟨v1, vs1, d1, ds1, p1, q1, rfl, rfl, rfl, h1, r1⟩ := trodAll_cons r0
  obtain ⟨v2, vs2, d2, ds2, p2, q2, rfl, rfl, rfl, h2, r2⟩ := trodAll_cons r1
  obtain ⟨rfl, rfl, rfl⟩ := trodAll_nil r2
  obtain rfl : args = #[v0, v1, v2] := by cases args; simp_all
  obtain ⟨rfl, rfl⟩ := trodVars_none hV
  have k0 := h0
  have lt0 : ∀ x ∈ p0, x.block < W.heap.size := by obtain ⟨m, hm⟩ := k0; exact DataW.trod_lt m _ _ _ hm
  obtain ⟨pv0, rfl, hL0, oA0, oD0, la0, ld0⟩ := open_places (hval 0 36 v0 rfl rfl) h0
  have k1 := h1
  have lt1 : ∀ x ∈ p1, x.block < W.heap.size := by obtain ⟨m, hm⟩ := k1; exact DataW.trod_lt m _ _ _ hm
  obtain ⟨A1, c1, l1, rfl, hL1, ok1, le1⟩ := open_connects (hval 1 22 v1 rfl rfl) h1
  have k2 := h2
  have lt2 : ∀ x ∈ p2, x.block < W.heap.size := by obtain ⟨m, hm⟩ := k2; exact DataW.trod_lt m _ _ _ hm
  obtain ⟨A2, c2, l2, rfl, hL2, ok2, le2⟩ := open_segs (hval 2 26 v2 rfl rfl) h2
  clear hA0 hval hsz
  refine (Con.connectValid_walk pv0 A1 c1 l1 A2 c2 l2 W hL0 oA0 oD0 hL1 hL2 le2).mono fun e W' ⟨he, bel⟩ => ?_
  subst he
  exact ⟨_, rfl, _, _, _, [], _, [], hW', trodAll_mk1 (shut_bool Tryd.underlying4 _), (trodAll_cons_mk (Below.trod laidOut (by kernel_rfl) (of_decide_eq_true (by kernel_rfl)) k0 bel lt0) (trodAll_cons_mk (Below.trod laidOut (by kernel_rfl) (of_decide_eq_true (by kernel_rfl)) k1 bel lt1) (trodAll_cons_mk (Below.trod laidOut (by kernel_rfl) (of_decide_eq_true (by kernel_rfl)) k2 bel lt2) (trodAll_mk0)))), rfl, bel.frame _, fun h => by cases h⟩
theorem connectValid_reads (os : Os) {H : Type} (enc : TypeId × Value → H) : ∃ places, DataW.whole enc Tryd.prog ((laidWorld os).forCall (fun _ _ => 0) ⟨#[], #[.agg #[.slice none 0 0, .slice none 0 0], .slice none 0 0, .slice none 0 0], []⟩).memory Tryd.f4.params.toList Rows.connectValidSpec.vars false (#[.agg #[.slice none 0 0, .slice none 0 0], .slice none 0 0, .slice none 0 0] : Array Value).toList 8 = some ([.agg [.nil, .nil], .nil, .nil], [], places) :=
  ⟨[], by kernel_rfl⟩
set_option maxRecDepth 100000 in
theorem connectValid_lifted (os : Os) (started : os.Started) (H : Type) (enc : TypeId × Value → H) (F : Stop.Interp) :
    ReturnsInHanded {} Tryd.checked os 4 .any ((OpenSpec.ofChange Rows.connectValidSpec).preRow enc Tryd.prog Tryd.f4 Rows.connectValidRow.domain false Rows.connectValidRow.laid) (((OpenSpec.ofChange Rows.connectValidSpec).at F).post enc Tryd.prog Tryd.f4 false true false false) := by
  obtain ⟨places, hx⟩ := connectValid_reads os enc
  refine returnsInHanded_of_row (C := Tryd.checked) (s := (OpenSpec.ofChange Rows.connectValidSpec)) own started (by kernel_rfl) Tryd.func4
    (witness_row_atRef (enc := enc) (C := Tryd.checked) false (laidWorld os) #[.agg #[.slice none 0 0, .slice none 0 0], .slice none 0 0, .slice none 0 0] rfl (by kernel_rfl) (by kernel_rfl) (by kernel_rfl)
      (OpenSpec.preRow_of_cond 8 hx (by kernel_rfl) (fun k hk => by cases hk) (by kernel_rfl) (laidWorld_met os _))) ?_
  intro W base args ds gs before hval hW _ _ hsz hL _ _
  exact connectValid_contract H enc W base args ds gs before hval hW hsz hL
theorem connectValid_said : Rows.ConnectValidSaid :=
  OpenClaim.holds_of_cond 4 Tryd.f4 rfl rfl rfl rfl rfl rfl rfl ⟨rfl, rfl, rfl, rfl, rfl⟩ rfl rfl rfl rfl rfl (by kernel_rfl) Tryd.func4 (by kernel_rfl)
    (of_decide_eq_true (by kernel_rfl)) (by unfold Func.isWrapper; first | (rw [if_pos (by decide +kernel)]; kernel_rfl) | (rw [if_neg (by decide +kernel)]; exact ⟨rfl, rfl⟩))
    (fun os started H enc _ F => by rw [OpenClaim.pre_eq_preRow]; exact connectValid_lifted os started H enc F)
theorem connectValid_plain (f : FuncId) (fn : Func) (hf : Tryd.pinned.checked.prog.funcNamed "airline/airlinelaw11.ConnectValid" = some f) (hfn : Tryd.pinned.checked.prog.funcs[f]? = some fn) :
    false = Tryd.pinned.checked.prog.looks [] ∧ ∀ (j : Nat) t, fn.params[j]? = some t → Tryd.pinned.checked.prog.wantsStandIn t = false := by
  obtain rfl : f = 4 := Option.some.inj ((show Tryd.prog.funcNamed "airline/airlinelaw11.ConnectValid" = some 4 by kernel_rfl).symm.trans hf) |>.symm
  obtain rfl : fn = Tryd.f4 := (Option.some.inj (Tryd.func4.symm.trans hfn)).symm
  refine ⟨by kernel_rfl, fun j t ht => ?_⟩
  rw [connectValid_params] at ht
  have h := Array.mem_of_getElem? ht
  simp only [List.mem_toArray, List.mem_cons, List.not_mem_nil, or_false] at h
  rcases h with rfl | rfl | rfl
  · exact (show Tryd.prog.wantsStandIn 36 = false by kernel_rfl)
  · exact (show Tryd.prog.wantsStandIn 22 = false by kernel_rfl)
  · exact (show Tryd.prog.wantsStandIn 26 = false by kernel_rfl)
/-- the card -/
theorem connectValid_card : Rows.ConnectValidCardSaid :=
  Claim7.holds_tied_plain_at .later [] _ _ _ _ connectValid_said (fun _ h => by cases h) (by kernel_rfl) (fun _ h => by cases h) connectValid_row_tie rfl ⟨rfl, rfl⟩ (by kernel_rfl) rfl connectValid_plain (by kernel_rfl)

end Go.Proofs.YtimemdakmppcnaaDoor
