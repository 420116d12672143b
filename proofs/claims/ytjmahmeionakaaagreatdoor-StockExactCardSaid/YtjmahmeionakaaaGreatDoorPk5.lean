/- Words and walks that the laws below ask: CabC. -/
import Derived.Deep.RegionHeld3
import Derived.OrdersHeld
import Derived.Deep.CutRange
import Derived.Deep.CutBlock
import Derived.Test.YtjmahmeionakaaaGreatDoorPk4
/- Walk of checkCabins. -/
namespace Go.Proofs.YtjmahmeionakaaaGreatDoor
open Go.RowKit Go.Shelf Go.Maps
set_option linter.unusedSimpArgs false
set_option linter.unusedVariables false

theorem MapK.mono {κ : Type} [DecidableEq κ] {P : Program} {k : TypeId} {en : κ → Value} {w : World} {b n m : Nat} {g : κ → Option Value} (h : MapK P k en w b n g) (hm : n ≤ m) : MapK P k en w b m g := by
  obtain ⟨es, clock, hb, F, hs, hg⟩ := h
  exact ⟨es, clock, hb, F, Nat.le_trans hs hm, hg⟩
theorem But.grownBy {w w' : World} {b : Nat} (h : But w w' (fun k => k = b)) : w.grownBy w' (some b) :=
  ⟨h.os, h.tape, h.output, h.size, fun k hk hn => h.block k hk (fun e => hn (by rw [e]))⟩
theorem but_below {w w' : World} {b : Nat} {B : Nat} (h : But w w' (fun k => k = b)) (hB : B ≤ w.heap.size) (hb : B ≤ b) : Below B w w' :=
  h.below hB (fun k hk e => by omega)
set_option maxRecDepth 100000 in
set_option maxHeartbeats 16000000 in
theorem checkCabins_any (at_ : ByteArray) (A : Option Addr) (c : Nat) (l : List Cb) (w : World) (ha : at_.size ≤ 100) (hv : CbL w (.slice A l.length c) l) (hn : l.length ≤ 8) (hok : ∀ b ∈ l, OkCb b) :
    Calls Tryz.prog 88 #[.string at_, .slice A l.length c] w fun e w' => ∃ v', e = .returned v' ∧ FOwn w.heap.size w' v' (cabF at_ l l.length) ∧ Below w.heap.size w w' := by
  have HV := Lib.hid hv
  have HOK := Lib.hid hok
  have hmm := @run_makeMap Tryz.prog
  have b1 := bel_alloc w (.map #[] 0)
  have b2 := b1.trans ((bel_alloc (w.alloc (.map #[] 0)) (.map #[] 0)).mono b1.size)
  have m1 : MapS ((w.alloc (.map #[] 0)).alloc (.map #[] 0)) w.heap.size 0 (gS []) := by rw [gS_nil]; exact (MapK.made w Tryz.prog 9 Value.string).more (bel_alloc _ _)
  have m2 : MapS ((w.alloc (.map #[] 0)).alloc (.map #[] 0)) (w.heap.size + 1) 0 (gS []) := by
    have h := MapK.made (w.alloc (.map #[] 0)) Tryz.prog 9 Value.string
    rw [World.size_alloc] at h
    rw [gS_nil]; exact h
  obtain ⟨MB, hMB⟩ : ∃ MB, MB = w.heap.size := ⟨_, rfl⟩
  rw [← hMB] at m1 m2
  have HI : Hid (FOwn (MB + 2) ((w.alloc (.map #[] 0)).alloc (.map #[] 0)) (.slice none 0 0) (cabF at_ l 0) ∧ MapS ((w.alloc (.map #[] 0)).alloc (.map #[] 0)) MB 0 (gS ((l.take 0).map Cb.name)) ∧ MapS ((w.alloc (.map #[] 0)).alloc (.map #[] 0)) (MB + 1) (30 * 0) (gS (codesB (l.take 0))) ∧ Below w.heap.size w ((w.alloc (.map #[] 0)).alloc (.map #[] 0))) := Lib.hid ⟨ROwn.nil (by simp [hMB]), m1, m2, b2⟩
  have HMB := Lib.hid hMB
  clear hv hok m1 m2 b1 b2
  go_enter Tryz.func88, Tryz.ntmps88
  go_wp2
  rw [← hMB]
  clear hMB
  go_loopw [5, 15] (fun s5 vi W => ∃ (v : Value) (k : Nat), v = s5 ∧ k ≤ l.length ∧ vi = .int .i64 k ∧ Hid (FOwn (MB + 2) W v (cabF at_ l k) ∧ MapS W MB k (gS ((l.take k).map Cb.name)) ∧ MapS W (MB + 1) (30 * k) (gS (codesB (l.take k))) ∧ Below w.heap.size w W)) (fun _ vi _ => l.length - (intOf vi).toNat)
  case atStart => exact ⟨_, 0, rfl, Nat.zero_le _, rfl, HI⟩
  case round =>
    obtain ⟨v, k, rfl, hk, rfl, HJ⟩ := hrel
    clear HI
    by_cases hlt : k < l.length
    · obtain ⟨b, hkc⟩ : ∃ b, l[k]? = some b := ⟨_, List.getElem?_eq_getElem hlt⟩
      obtain ⟨bb, off, e1, hbl, hc⟩ := row_get (HV.out.1.more HJ.out.2.2.2) hkc
      cases e1
      have i2 : (k : Int) < (l.length : Int) := by omega
      have hAt := Lib.hid (HV.out.2 b (List.mem_of_getElem? hkc))
      obtain ⟨bA, hA⟩ : ∃ A, A = b.A := ⟨_, rfl⟩
      have HA := Lib.hid hA
      have d0 := hc 0 _ rfl
      have d1 := hc 1 _ rfl
      have d2 := hc 2 _ rfl
      have d3 := hc 3 _ rfl
      rw [← hA] at d3
      rw [Nat.add_zero] at d0
      clear hA
      have hokc := HOK.out b (List.mem_of_getElem? hkc)
      have HOC := Lib.hid hokc
      have hT := Lib.hid (map_snoc Cb.name l k b hkc)
      have hT2 := Lib.hid (codesB_snoc l k b hkc)
      have HF := Lib.hid (cabF_succ at_ l k b hkc)
      have HFL : Hid ((cabF at_ l k).length ≤ 1000000) := Lib.hid (by have := cabF_le at_ l (fun b hb => (HOK.out b hb).len) k; omega)
      have HKG := Lib.hid (gS_get ((l.take k).map Cb.name) b.name)
      have HKP := Lib.hid (gS_put ((l.take k).map Cb.name) b.name)
      have hkey := str_key b.name hokc.name
      have hb1 := bel_alloc wr (.cells #[.string b.name, .int .i64 b.seats, .int .i64 b.over, .slice bA b.l.length b.c] cbT)
      have q0 := (cells_new wr #[.string b.name, .int .i64 b.seats, .int .i64 b.over, .slice bA b.l.length b.c] cbT 0).trans (show _ = some (Value.string b.name) from rfl)
      have q1 := (cells_new wr #[.string b.name, .int .i64 b.seats, .int .i64 b.over, .slice bA b.l.length b.c] cbT 1).trans (show _ = some (Value.int .i64 b.seats) from rfl)
      have q2 := (cells_new wr #[.string b.name, .int .i64 b.seats, .int .i64 b.over, .slice bA b.l.length b.c] cbT 2).trans (show _ = some (Value.int .i64 b.over) from rfl)
      have q3 := (cells_new wr #[.string b.name, .int .i64 b.seats, .int .i64 b.over, .slice bA b.l.length b.c] cbT 3).trans (show _ = some (Value.slice bA b.l.length b.c) from rfl)
      have HO6 := Lib.hid (HJ.out.1.more hb1)
      have mm1 := HJ.out.2.1.more hb1
      have MM2 := Lib.hid (HJ.out.2.2.1.more hb1)
      have hb6 := HJ.out.2.2.2.trans (hb1.mono HJ.out.2.2.2.size)
      have hvN : v.ownBlock ≠ some wr.heap.size := fun h => Nat.lt_irrefl _ (HJ.out.1.low h).2
      have hv1 : v.ownBlock ≠ some MB := fun h => by have := (HJ.out.1.low h).1; omega
      have hv2 : v.ownBlock ≠ some (MB + 1) := fun h => by have := (HJ.out.1.low h).1; omega
      have hNM : MB + 1 < wr.heap.size := HJ.out.2.2.1.lt
      have HEq : Hid (cabE l k b = [whC (!codeB b.name 1 8) 5, whC (anyS ((l.take k).map Cb.name) b.name) 6, whC (!sizB b) 2, whC (badN b.l.length 26) 4]) := Lib.hid rfl
      have HBM : Hid (badN b.l.length 26 = (decide ((b.l.length : Int) < 1) || decide (26 < (b.l.length : Int)))) := Lib.hid rfl
      have KD := Lib.hid (dec_small k (by omega))
      have hadd1 : ∀ W : World, (Op.stringOp .add at_ ⟨#[32, 99, 97, 98, 105, 110, 32]⟩).run Tryz.prog W = .ok (.string (at_ ++ cabW)) W := fun W => run_string_add_sum W _ _ (by have e : (⟨#[32, 99, 97, 98, 105, 110, 32]⟩ : ByteArray).size = 7 := rfl; omega)
      have hsz : (at_ ++ cabW ++ decA k).size ≤ 200 := by have := decA_size k (by omega); have e : cabW.size = 7 := rfl; simp only [ByteArray.size_append]; omega
      have hadd2 : ∀ W : World, (Op.stringOp .add (at_ ++ cabW) (decA k)).run Tryz.prog W = .ok (.string (at_ ++ cabW ++ decA k)) W := fun W => run_string_add_sum W _ _ (by have := hsz; simp only [ByteArray.size_append] at this ⊢; omega)
      have HSZ := Lib.hid hsz
      obtain ⟨NB, hNB⟩ : ∃ NB, NB = wr.heap.size := ⟨_, rfl⟩
      have HNB := Lib.hid hNB
      rw [← hNB] at q0 q1 q2 q3 hvN hNM
      clear hb1 HJ hkc hc hbl hsz
      generalize hnm : at_ ++ cabW ++ decA k = nm at *
      generalize at_ ++ cabW = nm1 at *
      generalize decA k = sk at *
      clear hnm
      go_upto_region 7 with (go_at_call 84; refine (KD.out _).mono ?_; rintro e w' ⟨rfl, rfl⟩)
      rw [← hNB]
      clear d0 d1 d2 d3 hNB hadd1 hadd2 KD
      generalize wr.alloc (.cells #[.string b.name, .int .i64 b.seats, .int .i64 b.over, .slice bA b.l.length b.c] cbT) = w6 at *
      have f0 : ∀ W, SX w6 v W → W.cell? ⟨NB, 0, none⟩ = some (.string b.name) := fun W h => SX.cell q0 hvN h
      have f1 : ∀ W, SX w6 v W → W.cell? ⟨NB, 1, none⟩ = some (.int .i64 b.seats) := fun W h => SX.cell q1 hvN h
      have f2 : ∀ W, SX w6 v W → W.cell? ⟨NB, 2, none⟩ = some (.int .i64 b.over) := fun W h => SX.cell q2 hvN h
      have f3 : ∀ W, SX w6 v W → W.cell? ⟨NB, 3, none⟩ = some (.slice bA b.l.length b.c) := fun W h => SX.cell q3 hvN h
      have lkN : ∀ W, SX w6 v W → (Instr.lookup 127 (.map (some MB)) (.string b.name) false).run Tryz.prog W = .ok (.bool (anyS ((l.take k).map Cb.name) b.name)) W := fun W h => by
        have h := lookB (SX.map mm1 hv1 h) b.name hokc.name
        rw [HKG.out] at h
        exact h
      have KU := Lib.hid (fun W => code_any b.name 1 8 W hokc.name)
      have KZ : Hid (∀ W, Calls Tryz.prog 125 #[.agg #[.string b.name, .int .i64 b.seats, .int .i64 b.over, .slice bA b.l.length b.c]] W fun e w' => e = .returned (.bool (sizB b)) ∧ Below W.heap.size W w') := Lib.hid (fun W => by have h := isSized_any b W; dsimp only [aggCb] at h; rw [← HA.out] at h; exact h)
      have HK := Lib.hid hkey
      have MM1 := Lib.hid mm1
      have HB6 := Lib.hid hb6
      have hO := HO6.out.more ((Below.refl _ w6).drew)
      generalize anyS ((l.take k).map Cb.name) b.name = tw at *
      generalize codeB b.name 1 8 = cb at *
      generalize sizB b = sb at *
      generalize hbm : badN b.l.length 26 = bm at *
      clear mm1 q0 q1 q2 q3 hb6 HKG hkey hokc hbm
      cases h0 : decide ((b.l.length : Int) < 1) with
      | true =>
        have h0' : (b.l.length : Int) < 1 := of_decide_eq_true h0
        have HBT : Hid (bm = true) := Lib.hid (by rw [HBM.out, h0]; rfl)
        obtain ⟨x0, hx0⟩ : ∃ x : Int, x = whC (!cb) 5 := ⟨_, rfl⟩
        obtain ⟨x1, hx1⟩ : ∃ x : Int, x = whC tw 6 := ⟨_, rfl⟩
        obtain ⟨x2, hx2⟩ : ∃ x : Int, x = whC (!sb) 2 := ⟨_, rfl⟩
        obtain ⟨x3, hx3⟩ : ∃ x : Int, x = whC true 4 := ⟨_, rfl⟩
        have KW0 : Hid (∀ W, Calls Tryz.prog 86 #[.bool (!cb), .int .i64 5] W fun r w' => r = .returned (.int .i64 x0) ∧ W = w') := Lib.hid (fun W => by rw [hx0]; exact fwhen_any (!cb) 5 W)
        have KW1 : Hid (∀ W, Calls Tryz.prog 86 #[.bool tw, .int .i64 6] W fun r w' => r = .returned (.int .i64 x1) ∧ W = w') := Lib.hid (fun W => by rw [hx1]; exact fwhen_any tw 6 W)
        have KW2 : Hid (∀ W, Calls Tryz.prog 86 #[.bool (!sb), .int .i64 2] W fun r w' => r = .returned (.int .i64 x2) ∧ W = w') := Lib.hid (fun W => by rw [hx2]; exact fwhen_any (!sb) 2 W)
        have KW3 : Hid (∀ W, Calls Tryz.prog 86 #[.bool true, .int .i64 4] W fun r w' => r = .returned (.int .i64 x3) ∧ W = w') := Lib.hid (fun W => by rw [hx3]; exact fwhen_any true 4 W)
        have HEr : Hid (cabE l k b = [x0, x1, x2, x3]) := Lib.hid (by rw [HEq.out, hx0, hx1, hx2, hx3, HBT.out])
        clear hx0 hx1 hx2 hx3 HEq HBT HBM
        have hS : (SX w6 v) _ := But.of_below (Below.refl _ _).drew
        refine wp_region_held_drew (S := SX w6 v) (by kernel_rfl) hS (fun _ => ?_)
        refine wpAnyH_take (i := 0) (v := ?vA0) rfl (by kernel_rfl) (by kernel_rfl) (by kernel_rfl) (fun _ _ _ h => h) (Or.inl ⟨by rfl, ?hyA0⟩) hS ?restA0
        case hyA0 =>
          intro w hSw
          first | (go_simp; done) | (go_simp; with_reducible rfl)
        try simp only [Act.put, List.setIfInBounds_toArray, List.set_cons_zero, List.set_cons_succ]
        refine wpAnyH_take (i := 1) (v := ?vA1) rfl (by kernel_rfl) (by kernel_rfl) (by kernel_rfl) (fun _ _ _ h => h) (Or.inl ⟨by rfl, ?hyA1⟩) hS ?restA1
        case hyA1 =>
          intro w hSw
          first | (go_simp; done) | (go_simp; with_reducible rfl)
        try simp only [Act.put, List.setIfInBounds_toArray, List.set_cons_zero, List.set_cons_succ]
        refine wpAnyH_take (i := 2) (v := ?vA2) rfl (by kernel_rfl) (by kernel_rfl) (by kernel_rfl) (fun _ _ _ h => h) (Or.inl ⟨by rfl, ?hyA2⟩) hS ?restA2
        case hyA2 =>
          intro w hSw
          first | (go_simp; done) | (go_simp; with_reducible rfl)
        try simp only [Act.put, List.setIfInBounds_toArray, List.set_cons_zero, List.set_cons_succ]
        refine wpAnyH_take (i := 3) (v := ?vA3) rfl (by kernel_rfl) (by kernel_rfl) (by kernel_rfl) (fun _ _ _ h => h) (Or.inl ⟨by rfl, ?hyA3⟩) hS ?restA3
        case hyA3 =>
          intro w hSw
          have k0 := f0 w hSw; have k1 := f1 w hSw; have k2 := f2 w hSw; have k3 := f3 w hSw; have k4 := lkN w hSw
          first | (go_simp; done) | (go_simp; with_reducible rfl)
        try simp only [Act.put, List.setIfInBounds_toArray, List.set_cons_zero, List.set_cons_succ]
        refine wpAnyH_take (i := 7) (v := ?vA7) rfl (by kernel_rfl) (by kernel_rfl) (by kernel_rfl) (fun _ _ _ h => h) (Or.inl ⟨by rfl, ?hyA7⟩) hS ?restA7
        case hyA7 =>
          intro w hSw
          first | (go_simp; done) | (go_simp; with_reducible rfl)
        try simp only [Act.put, List.setIfInBounds_toArray, List.set_cons_zero, List.set_cons_succ]
        refine wpAnyH_take (i := 8) (v := ?vA8) rfl (by kernel_rfl) (by kernel_rfl) (by kernel_rfl) (fun _ _ _ h => h) (Or.inl ⟨by rfl, ?hyA8⟩) hS ?restA8
        case hyA8 =>
          intro w hSw
          first | (go_simp; done) | (go_simp; with_reducible rfl)
        try simp only [Act.put, List.setIfInBounds_toArray, List.set_cons_zero, List.set_cons_succ]
        refine wpAnyH_take (i := 9) (v := ?vA9) rfl (by kernel_rfl) (by kernel_rfl) (by kernel_rfl) (fun _ _ _ h => h) (Or.inl ⟨by rfl, ?hyA9⟩) hS ?restA9
        case hyA9 =>
          intro w hSw
          have k0 := f0 w hSw; have k1 := f1 w hSw; have k2 := f2 w hSw; have k3 := f3 w hSw; have k4 := lkN w hSw
          first | (go_simp; done) | (go_simp; with_reducible rfl)
        try simp only [Act.put, List.setIfInBounds_toArray, List.set_cons_zero, List.set_cons_succ]
        refine wpAnyH_take (i := 10) (v := ?vA10) rfl (by kernel_rfl) (by kernel_rfl) (by kernel_rfl) (fun _ _ _ h => h) (Or.inl ⟨by rfl, ?hyA10⟩) hS ?restA10
        case hyA10 =>
          intro w hSw
          have k0 := f0 w hSw; have k1 := f1 w hSw; have k2 := f2 w hSw; have k3 := f3 w hSw; have k4 := lkN w hSw
          first | (go_simp; done) | (go_simp; with_reducible rfl)
        try simp only [Act.put, List.setIfInBounds_toArray, List.set_cons_zero, List.set_cons_succ]
        refine wpAnyH_take (i := 12) (v := ?vA12) rfl (by kernel_rfl) (by kernel_rfl) (by kernel_rfl) (fun _ _ _ h => h) (Or.inl ⟨by rfl, ?hyA12⟩) hS ?restA12
        case hyA12 =>
          intro w hSw
          have k0 := f0 w hSw; have k1 := f1 w hSw; have k2 := f2 w hSw; have k3 := f3 w hSw; have k4 := lkN w hSw
          first | (go_simp; done) | (go_simp; with_reducible rfl)
        try simp only [Act.put, List.setIfInBounds_toArray, List.set_cons_zero, List.set_cons_succ]
        refine wpAnyH_take (i := 16) (v := ?vA16) rfl (by kernel_rfl) (by kernel_rfl) (by kernel_rfl) (fun _ _ _ h => h) (Or.inl ⟨by rfl, ?hyA16⟩) hS ?restA16
        case hyA16 =>
          intro w hSw
          first | (go_simp; done) | (go_simp; with_reducible rfl)
        try simp only [Act.put, List.setIfInBounds_toArray, List.set_cons_zero, List.set_cons_succ]
        refine wpAnyH_take (i := 17) (v := ?vA17) rfl (by kernel_rfl) (by kernel_rfl) (by kernel_rfl) (fun _ _ _ h => h) (Or.inl ⟨by rfl, ?hyA17⟩) hS ?restA17
        case hyA17 =>
          intro w hSw
          have k0 := f0 w hSw; have k1 := f1 w hSw; have k2 := f2 w hSw; have k3 := f3 w hSw; have k4 := lkN w hSw
          first | (go_simp; done) | (go_simp; with_reducible rfl)
        try simp only [Act.put, List.setIfInBounds_toArray, List.set_cons_zero, List.set_cons_succ]
        refine wpAnyH_take (i := 18) (v := ?vA18) rfl (by kernel_rfl) (by kernel_rfl) (by kernel_rfl) (fun _ _ _ h => h) (Or.inl ⟨by rfl, ?hyA18⟩) hS ?restA18
        case hyA18 =>
          intro w hSw
          first | (go_simp; done) | (go_simp; with_reducible rfl)
        try simp only [Act.put, List.setIfInBounds_toArray, List.set_cons_zero, List.set_cons_succ]
        refine wpAnyH_take (i := 19) (v := ?vA19) rfl (by kernel_rfl) (by kernel_rfl) (by kernel_rfl) (fun _ _ _ h => h) (Or.inl ⟨by rfl, ?hyA19⟩) hS ?restA19
        case hyA19 =>
          intro w hSw
          first | (go_simp; done) | (go_simp; with_reducible rfl)
        try simp only [Act.put, List.setIfInBounds_toArray, List.set_cons_zero, List.set_cons_succ]
        refine wpAnyH_ready (rs := [4]) (by kernel_rfl) (by simp) ?_
        refine AllReadyH.cons rfl (fun K hK => ?_) AllReadyH.nil
        go_simp
        go_wp2_with ((go_at_call 87; refine (KU.out _).mono ?_; rintro e w' ⟨rfl, rfl⟩))
        refine hK.out _ _ hS (fun _ => ?_)
        clear hK K
        refine wpAnyH_take (i := 5) (v := ?vA5) rfl (by kernel_rfl) (by kernel_rfl) (by kernel_rfl) (fun _ _ _ h => h) (Or.inl ⟨by rfl, ?hyA5⟩) hS ?restA5
        case hyA5 =>
          intro w hSw
          first | (go_simp; done) | (go_simp; with_reducible rfl)
        try simp only [Act.put, List.setIfInBounds_toArray, List.set_cons_zero, List.set_cons_succ]
        refine wpAnyH_ready (rs := [6]) (by kernel_rfl) (by simp) ?_
        refine AllReadyH.cons rfl (fun K hK => ?_) AllReadyH.nil
        go_simp
        go_wp2_with ((go_at_call 86; refine (KW0.out _).mono ?_; rintro e w' ⟨rfl, rfl⟩))
        refine hK.out _ _ hS (fun _ => ?_)
        clear hK K
        refine wpAnyH_ready (rs := [11]) (by kernel_rfl) (by simp) ?_
        refine AllReadyH.cons rfl (fun K hK => ?_) AllReadyH.nil
        go_simp
        go_wp2_with ((go_at_call 86; refine (KW1.out _).mono ?_; rintro e w' ⟨rfl, rfl⟩))
        refine hK.out _ _ hS (fun _ => ?_)
        clear hK K
        refine wpAnyH_ready (rs := [13]) (by kernel_rfl) (by simp) ?_
        refine AllReadyH.cons rfl (fun K hK => ?_) AllReadyH.nil
        go_simp
        go_wp2_with ((go_at_call 125; refine (KZ.out _).mono ?_; rintro e w' ⟨rfl, hb'⟩; have hO := hO.more hb'; have hS := hS.on hb'))
        refine hK.out _ _ hS (fun _ => ?_)
        clear hK K
        refine wpAnyH_take (i := 14) (v := ?vA14) rfl (by kernel_rfl) (by kernel_rfl) (by kernel_rfl) (fun _ _ _ h => h) (Or.inl ⟨by rfl, ?hyA14⟩) hS ?restA14
        case hyA14 =>
          intro w hSw
          first | (go_simp; done) | (go_simp; with_reducible rfl)
        try simp only [Act.put, List.setIfInBounds_toArray, List.set_cons_zero, List.set_cons_succ]
        refine wpAnyH_ready (rs := [15]) (by kernel_rfl) (by simp) ?_
        refine AllReadyH.cons rfl (fun K hK => ?_) AllReadyH.nil
        go_simp
        go_wp2_with ((go_at_call 86; refine (KW2.out _).mono ?_; rintro e w' ⟨rfl, rfl⟩))
        refine hK.out _ _ hS (fun _ => ?_)
        clear hK K
        refine wpAnyH_take (i := 20) (v := ?vA20) rfl (by kernel_rfl) (by kernel_rfl) (by kernel_rfl) (fun _ _ _ h => h) (Or.inl ⟨by rfl, ?hyA20⟩) hS ?restA20
        case hyA20 =>
          intro w hSw
          first | (go_simp; done) | (go_simp; with_reducible rfl)
        try simp only [Act.put, List.setIfInBounds_toArray, List.set_cons_zero, List.set_cons_succ]
        refine wpAnyH_take (i := 21) (v := undef) rfl (by kernel_rfl) (by kernel_rfl) (by kernel_rfl) (fun _ _ _ h => h) (Or.inr ⟨by kernel_rfl, rfl⟩) hS ?_
        try simp only [Act.put, List.setIfInBounds_toArray, List.set_cons_zero, List.set_cons_succ]
        refine wpAnyH_take (i := 22) (v := undef) rfl (by kernel_rfl) (by kernel_rfl) (by kernel_rfl) (fun _ _ _ h => h) (Or.inr ⟨by kernel_rfl, rfl⟩) hS ?_
        try simp only [Act.put, List.setIfInBounds_toArray, List.set_cons_zero, List.set_cons_succ]
        refine wpAnyH_take (i := 23) (v := undef) rfl (by kernel_rfl) (by kernel_rfl) (by kernel_rfl) (fun _ _ _ h => h) (Or.inr ⟨by kernel_rfl, rfl⟩) hS ?_
        try simp only [Act.put, List.setIfInBounds_toArray, List.set_cons_zero, List.set_cons_succ]
        refine wpAnyH_take (i := 24) (v := undef) rfl (by kernel_rfl) (by kernel_rfl) (by kernel_rfl) (fun _ _ _ h => h) (Or.inr ⟨by kernel_rfl, rfl⟩) hS ?_
        try simp only [Act.put, List.setIfInBounds_toArray, List.set_cons_zero, List.set_cons_succ]
        refine wpAnyH_take (i := 25) (v := ?vA25) rfl (by kernel_rfl) (by kernel_rfl) (by kernel_rfl) (fun _ _ _ h => h) (Or.inl ⟨by rfl, ?hyA25⟩) hS ?restA25
        case hyA25 =>
          intro w hSw
          first | (go_simp; done) | (go_simp; with_reducible rfl)
        try simp only [Act.put, List.setIfInBounds_toArray, List.set_cons_zero, List.set_cons_succ]
        refine wpAnyH_ready (rs := [26]) (by kernel_rfl) (by simp) ?_
        refine AllReadyH.cons rfl (fun K hK => ?_) AllReadyH.nil
        go_simp
        go_wp2_with ((go_at_call 86; refine (KW3.out _).mono ?_; rintro e w' ⟨rfl, rfl⟩))
        refine hK.out _ _ hS (fun _ => ?_)
        clear hK K
        refine wpAnyH_ready (rs := [27]) (by kernel_rfl) (by simp) ?_
        refine AllReadyH.cons rfl (fun K hK => ?_) AllReadyH.nil
        go_simp
        have hNv : v.ownBlock ≠ some w'.heap.size := fun h => Nat.lt_irrefl _ (hO.low h).2
        have hO := hO.alloc (.cells #[.int .i64 x0, .int .i64 x1, .int .i64 x2, .int .i64 x3] errT)
        have hS := hS.on (bel_alloc _ (.cells #[.int .i64 x0, .int .i64 x1, .int .i64 x2, .int .i64 x3] errT))
        refine hK.out _ _ hS (fun _ => ?_)
        clear hK K
        refine wpAnyH_ready (rs := [28]) (by kernel_rfl) (by simp) ?_
        refine AllReadyH.cons rfl (fun K hK => ?_) AllReadyH.nil
        go_simp
        go_wp2_with ((go_at_call 85; refine (fadd_any _ v _ _ w'.heap.size 4 4 [x0, x1, x2, x3] _ hO rfl (by omega) (errs_new w' _ rfl) hNv HFL.out).mono ?_; rintro e w8 ⟨v8, rfl, hO8, hC8⟩; have hS := hS.trans hC8.but (fun _ _ h => h)))
        refine hK.out _ _ hS (fun _ => ?_)
        clear hK K
        refine wpAnyH_take (i := 29) (v := ?vA29) rfl (by kernel_rfl) (by kernel_rfl) (by kernel_rfl) (fun _ _ _ h => h) (Or.inl ⟨by rfl, ?hyA29⟩) hS ?restA29
        case hyA29 =>
          intro w hSw
          first | (go_simp; done) | (go_simp; with_reducible rfl)
        try simp only [Act.put, List.setIfInBounds_toArray, List.set_cons_zero, List.set_cons_succ]
        refine wpAnyH_done (by kernel_rfl) ?_ _
        have y0 := f0 _ hS
        have y1 := f1 _ hS
        have y2 := f2 _ hS
        have y3 := f3 _ hS
        have hm9 := SX.map MM1.out hv1 hS
        have hm2 := SX.map MM2.out hv2 hS
        go_wp2_with (at_mapUpdate; refine wpList_put (en := Value.string) rfl _ _ _ 127 rfl strK str_inj Tryz.underlying127 rfl hm9 (by unfold maxLen; omega) b.name _ rfl HK.out ?_; intro w9 hm9 hg9; refine Hid.out ?_)
        have u0 := grown_cell hg9 y0 (by simp; omega)
        have u1 := grown_cell hg9 y1 (by simp; omega)
        have u2 := grown_cell hg9 y2 (by simp; omega)
        have u3 := grown_cell hg9 y3 (by simp; omega)
        have hm2 := MapK.grown hm2 hg9 (by simp)
        have hwMB : w.heap.size ≤ MB := by have := HMB.out; omega
        have hb8 : Below w.heap.size w w8 := HB6.out.trans (hS.below HB6.out.size (fun k hk hv => by have := (HO6.out.low hv).1; omega))
        have hb9 : Below w.heap.size w w9 := hb8.grown hg9 hb8.size (fun k hk => by cases hk; exact hwMB)
        have hO9 := hO8.grown hg9 (.inl (fun e => by have := (hO8.low e.symm).1; omega))
        have KC : Hid (Calls Tryz.prog 126 #[.string nm, .agg #[.string b.name, .int .i64 b.seats, .int .i64 b.over, .slice bA b.l.length b.c], .map (some (MB + 1))] w9 fun e w' => ∃ v', e = .returned v' ∧ FltL w' v' (clsF nm (codesB (l.take k)) b b.l.length) ∧ MapS w' (MB + 1) (30 * k + b.l.length) (gS (codesB (l.take k) ++ codesC b.l)) ∧ But w9 w' (fun k => k = MB + 1)) := Lib.hid (by
          have h := checkClasses_any nm b (codesB (l.take k)) (MB + 1) (30 * k) w9 HSZ.out (hAt.out.more hb9) HOC.out hm2 (by omega)
          dsimp only [aggCb] at h
          rw [← HA.out] at h
          exact h.mono (by rintro e w' ⟨v', rfl, h1, h2, h3⟩; exact ⟨v', rfl, h1.rowL rtF.len, h2, h3⟩))
        have HM9 := Lib.hid hm9
        have HO9 := Lib.hid hO9
        have HB9 := Lib.hid hb9
        have HLM : Hid ((cabF at_ l k ++ pick nm [x0, x1, x2, x3]).length + (clsF nm (codesB (l.take k)) b b.l.length).length ≤ 100000000) := Lib.hid (by
          have h1 := HFL.out
          have h2 := pick_le nm [x0, x1, x2, x3]
          have h3 := clsF_le nm (codesB (l.take k)) b b.l.length
          have h4 := HOC.out.len
          simp only [List.length_append, List.length_cons, List.length_nil] at h2 ⊢
          omega)
        clear hm9 hg9 hb9 hb8 hO8 hC8 hS hO y0 y1 y2 y3 hm2 hO9
        refine Lib.hid ?_
        go_wp2_with (first | (go_at_call 126; refine KC.out.mono ?_; rintro e w10 ⟨v10, rfl, hF10, hm10, hB10⟩) | (at_builtin; refine wpList_rappl rtF rfl _ _ rfl (HO9.out.grown hB10.grownBy (.inl (fun e => by have := (HO9.out.low e.symm).1; omega))) rfl _ _ rfl hF10 HLM.out ?_; intro v11 w11 hO11 hC11; refine Hid.out ?_))
        have hv11 : v8.ownBlock ≠ some MB := fun h => by have := (HO9.out.low h).1; omega
        have hv12 : v8.ownBlock ≠ some (MB + 1) := fun h => by have := (HO9.out.low h).1; omega
        have hb10 : Below w.heap.size w w10 := HB9.out.trans (but_below hB10 HB9.out.size (by omega))
        have HX : Hid (FOwn (MB + 2) w11 v11 (cabF at_ l (k + 1)) ∧ MapS w11 MB (k + 1) (gS ((l.take (k + 1)).map Cb.name)) ∧ MapS w11 (MB + 1) (30 * (k + 1)) (gS (codesB (l.take (k + 1)))) ∧ Below w.heap.size w w11) := Lib.hid ⟨by
            rw [HF.out, HEr.out, ← List.append_assoc]
            exact hO11, by
            rw [hT.out, ← HKP.out]
            exact (HM9.out.grown hB10.grownBy (by simp)).same (hC11.but.block MB (Nat.lt_of_lt_of_le HM9.out.lt hB10.size) hv11), by
            rw [hT2.out]
            exact (hm10.same (hC11.but.block (MB + 1) hm10.lt hv12)).mono (by have := HOC.out.len; omega), hb10.trans (hC11.but.below hb10.size (fun q hq h => by have := (HO9.out.low h).1; omega))⟩
        clear hO11 hC11 hB10 hm10 hF10 hb10
        refine Lib.hid ?_
        go_wp2
        go_roundw
        case rel => exact ⟨_, k + 1, rfl, by omega, by go_num, HX⟩
        case measure => simp [intOf]; omega
      | false =>
        have h0' : ¬ (b.l.length : Int) < 1 := of_decide_eq_false h0
        cases h9 : decide (26 < (b.l.length : Int)) with
        | true =>
          have h9' : 26 < (b.l.length : Int) := of_decide_eq_true h9
          have HBT : Hid (bm = true) := Lib.hid (by rw [HBM.out, h9, Bool.or_true])
          obtain ⟨x0, hx0⟩ : ∃ x : Int, x = whC (!cb) 5 := ⟨_, rfl⟩
          obtain ⟨x1, hx1⟩ : ∃ x : Int, x = whC tw 6 := ⟨_, rfl⟩
          obtain ⟨x2, hx2⟩ : ∃ x : Int, x = whC (!sb) 2 := ⟨_, rfl⟩
          obtain ⟨x3, hx3⟩ : ∃ x : Int, x = whC true 4 := ⟨_, rfl⟩
          have KW0 : Hid (∀ W, Calls Tryz.prog 86 #[.bool (!cb), .int .i64 5] W fun r w' => r = .returned (.int .i64 x0) ∧ W = w') := Lib.hid (fun W => by rw [hx0]; exact fwhen_any (!cb) 5 W)
          have KW1 : Hid (∀ W, Calls Tryz.prog 86 #[.bool tw, .int .i64 6] W fun r w' => r = .returned (.int .i64 x1) ∧ W = w') := Lib.hid (fun W => by rw [hx1]; exact fwhen_any tw 6 W)
          have KW2 : Hid (∀ W, Calls Tryz.prog 86 #[.bool (!sb), .int .i64 2] W fun r w' => r = .returned (.int .i64 x2) ∧ W = w') := Lib.hid (fun W => by rw [hx2]; exact fwhen_any (!sb) 2 W)
          have KW3 : Hid (∀ W, Calls Tryz.prog 86 #[.bool true, .int .i64 4] W fun r w' => r = .returned (.int .i64 x3) ∧ W = w') := Lib.hid (fun W => by rw [hx3]; exact fwhen_any true 4 W)
          have HEr : Hid (cabE l k b = [x0, x1, x2, x3]) := Lib.hid (by rw [HEq.out, hx0, hx1, hx2, hx3, HBT.out])
          clear hx0 hx1 hx2 hx3 HEq HBT HBM
          have hS : (SX w6 v) _ := But.of_below (Below.refl _ _).drew
          refine wp_region_held_drew (S := SX w6 v) (by kernel_rfl) hS (fun _ => ?_)
          refine wpAnyH_take (i := 0) (v := ?vB0) rfl (by kernel_rfl) (by kernel_rfl) (by kernel_rfl) (fun _ _ _ h => h) (Or.inl ⟨by rfl, ?hyB0⟩) hS ?restB0
          case hyB0 =>
            intro w hSw
            first | (go_simp; done) | (go_simp; with_reducible rfl)
          try simp only [Act.put, List.setIfInBounds_toArray, List.set_cons_zero, List.set_cons_succ]
          refine wpAnyH_take (i := 1) (v := ?vB1) rfl (by kernel_rfl) (by kernel_rfl) (by kernel_rfl) (fun _ _ _ h => h) (Or.inl ⟨by rfl, ?hyB1⟩) hS ?restB1
          case hyB1 =>
            intro w hSw
            first | (go_simp; done) | (go_simp; with_reducible rfl)
          try simp only [Act.put, List.setIfInBounds_toArray, List.set_cons_zero, List.set_cons_succ]
          refine wpAnyH_take (i := 2) (v := ?vB2) rfl (by kernel_rfl) (by kernel_rfl) (by kernel_rfl) (fun _ _ _ h => h) (Or.inl ⟨by rfl, ?hyB2⟩) hS ?restB2
          case hyB2 =>
            intro w hSw
            first | (go_simp; done) | (go_simp; with_reducible rfl)
          try simp only [Act.put, List.setIfInBounds_toArray, List.set_cons_zero, List.set_cons_succ]
          refine wpAnyH_take (i := 3) (v := ?vB3) rfl (by kernel_rfl) (by kernel_rfl) (by kernel_rfl) (fun _ _ _ h => h) (Or.inl ⟨by rfl, ?hyB3⟩) hS ?restB3
          case hyB3 =>
            intro w hSw
            have k0 := f0 w hSw; have k1 := f1 w hSw; have k2 := f2 w hSw; have k3 := f3 w hSw; have k4 := lkN w hSw
            first | (go_simp; done) | (go_simp; with_reducible rfl)
          try simp only [Act.put, List.setIfInBounds_toArray, List.set_cons_zero, List.set_cons_succ]
          refine wpAnyH_take (i := 7) (v := ?vB7) rfl (by kernel_rfl) (by kernel_rfl) (by kernel_rfl) (fun _ _ _ h => h) (Or.inl ⟨by rfl, ?hyB7⟩) hS ?restB7
          case hyB7 =>
            intro w hSw
            first | (go_simp; done) | (go_simp; with_reducible rfl)
          try simp only [Act.put, List.setIfInBounds_toArray, List.set_cons_zero, List.set_cons_succ]
          refine wpAnyH_take (i := 8) (v := ?vB8) rfl (by kernel_rfl) (by kernel_rfl) (by kernel_rfl) (fun _ _ _ h => h) (Or.inl ⟨by rfl, ?hyB8⟩) hS ?restB8
          case hyB8 =>
            intro w hSw
            first | (go_simp; done) | (go_simp; with_reducible rfl)
          try simp only [Act.put, List.setIfInBounds_toArray, List.set_cons_zero, List.set_cons_succ]
          refine wpAnyH_take (i := 9) (v := ?vB9) rfl (by kernel_rfl) (by kernel_rfl) (by kernel_rfl) (fun _ _ _ h => h) (Or.inl ⟨by rfl, ?hyB9⟩) hS ?restB9
          case hyB9 =>
            intro w hSw
            have k0 := f0 w hSw; have k1 := f1 w hSw; have k2 := f2 w hSw; have k3 := f3 w hSw; have k4 := lkN w hSw
            first | (go_simp; done) | (go_simp; with_reducible rfl)
          try simp only [Act.put, List.setIfInBounds_toArray, List.set_cons_zero, List.set_cons_succ]
          refine wpAnyH_take (i := 10) (v := ?vB10) rfl (by kernel_rfl) (by kernel_rfl) (by kernel_rfl) (fun _ _ _ h => h) (Or.inl ⟨by rfl, ?hyB10⟩) hS ?restB10
          case hyB10 =>
            intro w hSw
            have k0 := f0 w hSw; have k1 := f1 w hSw; have k2 := f2 w hSw; have k3 := f3 w hSw; have k4 := lkN w hSw
            first | (go_simp; done) | (go_simp; with_reducible rfl)
          try simp only [Act.put, List.setIfInBounds_toArray, List.set_cons_zero, List.set_cons_succ]
          refine wpAnyH_take (i := 12) (v := ?vB12) rfl (by kernel_rfl) (by kernel_rfl) (by kernel_rfl) (fun _ _ _ h => h) (Or.inl ⟨by rfl, ?hyB12⟩) hS ?restB12
          case hyB12 =>
            intro w hSw
            have k0 := f0 w hSw; have k1 := f1 w hSw; have k2 := f2 w hSw; have k3 := f3 w hSw; have k4 := lkN w hSw
            first | (go_simp; done) | (go_simp; with_reducible rfl)
          try simp only [Act.put, List.setIfInBounds_toArray, List.set_cons_zero, List.set_cons_succ]
          refine wpAnyH_take (i := 16) (v := ?vB16) rfl (by kernel_rfl) (by kernel_rfl) (by kernel_rfl) (fun _ _ _ h => h) (Or.inl ⟨by rfl, ?hyB16⟩) hS ?restB16
          case hyB16 =>
            intro w hSw
            first | (go_simp; done) | (go_simp; with_reducible rfl)
          try simp only [Act.put, List.setIfInBounds_toArray, List.set_cons_zero, List.set_cons_succ]
          refine wpAnyH_take (i := 17) (v := ?vB17) rfl (by kernel_rfl) (by kernel_rfl) (by kernel_rfl) (fun _ _ _ h => h) (Or.inl ⟨by rfl, ?hyB17⟩) hS ?restB17
          case hyB17 =>
            intro w hSw
            have k0 := f0 w hSw; have k1 := f1 w hSw; have k2 := f2 w hSw; have k3 := f3 w hSw; have k4 := lkN w hSw
            first | (go_simp; done) | (go_simp; with_reducible rfl)
          try simp only [Act.put, List.setIfInBounds_toArray, List.set_cons_zero, List.set_cons_succ]
          refine wpAnyH_take (i := 18) (v := ?vB18) rfl (by kernel_rfl) (by kernel_rfl) (by kernel_rfl) (fun _ _ _ h => h) (Or.inl ⟨by rfl, ?hyB18⟩) hS ?restB18
          case hyB18 =>
            intro w hSw
            first | (go_simp; done) | (go_simp; with_reducible rfl)
          try simp only [Act.put, List.setIfInBounds_toArray, List.set_cons_zero, List.set_cons_succ]
          refine wpAnyH_take (i := 19) (v := ?vB19) rfl (by kernel_rfl) (by kernel_rfl) (by kernel_rfl) (fun _ _ _ h => h) (Or.inl ⟨by rfl, ?hyB19⟩) hS ?restB19
          case hyB19 =>
            intro w hSw
            first | (go_simp; done) | (go_simp; with_reducible rfl)
          try simp only [Act.put, List.setIfInBounds_toArray, List.set_cons_zero, List.set_cons_succ]
          refine wpAnyH_ready (rs := [4]) (by kernel_rfl) (by simp) ?_
          refine AllReadyH.cons rfl (fun K hK => ?_) AllReadyH.nil
          go_simp
          go_wp2_with ((go_at_call 87; refine (KU.out _).mono ?_; rintro e w' ⟨rfl, rfl⟩))
          refine hK.out _ _ hS (fun _ => ?_)
          clear hK K
          refine wpAnyH_take (i := 5) (v := ?vB5) rfl (by kernel_rfl) (by kernel_rfl) (by kernel_rfl) (fun _ _ _ h => h) (Or.inl ⟨by rfl, ?hyB5⟩) hS ?restB5
          case hyB5 =>
            intro w hSw
            first | (go_simp; done) | (go_simp; with_reducible rfl)
          try simp only [Act.put, List.setIfInBounds_toArray, List.set_cons_zero, List.set_cons_succ]
          refine wpAnyH_ready (rs := [6]) (by kernel_rfl) (by simp) ?_
          refine AllReadyH.cons rfl (fun K hK => ?_) AllReadyH.nil
          go_simp
          go_wp2_with ((go_at_call 86; refine (KW0.out _).mono ?_; rintro e w' ⟨rfl, rfl⟩))
          refine hK.out _ _ hS (fun _ => ?_)
          clear hK K
          refine wpAnyH_ready (rs := [11]) (by kernel_rfl) (by simp) ?_
          refine AllReadyH.cons rfl (fun K hK => ?_) AllReadyH.nil
          go_simp
          go_wp2_with ((go_at_call 86; refine (KW1.out _).mono ?_; rintro e w' ⟨rfl, rfl⟩))
          refine hK.out _ _ hS (fun _ => ?_)
          clear hK K
          refine wpAnyH_ready (rs := [13]) (by kernel_rfl) (by simp) ?_
          refine AllReadyH.cons rfl (fun K hK => ?_) AllReadyH.nil
          go_simp
          go_wp2_with ((go_at_call 125; refine (KZ.out _).mono ?_; rintro e w' ⟨rfl, hb'⟩; have hO := hO.more hb'; have hS := hS.on hb'))
          refine hK.out _ _ hS (fun _ => ?_)
          clear hK K
          refine wpAnyH_take (i := 14) (v := ?vB14) rfl (by kernel_rfl) (by kernel_rfl) (by kernel_rfl) (fun _ _ _ h => h) (Or.inl ⟨by rfl, ?hyB14⟩) hS ?restB14
          case hyB14 =>
            intro w hSw
            first | (go_simp; done) | (go_simp; with_reducible rfl)
          try simp only [Act.put, List.setIfInBounds_toArray, List.set_cons_zero, List.set_cons_succ]
          refine wpAnyH_ready (rs := [15]) (by kernel_rfl) (by simp) ?_
          refine AllReadyH.cons rfl (fun K hK => ?_) AllReadyH.nil
          go_simp
          go_wp2_with ((go_at_call 86; refine (KW2.out _).mono ?_; rintro e w' ⟨rfl, rfl⟩))
          refine hK.out _ _ hS (fun _ => ?_)
          clear hK K
          refine wpAnyH_take (i := 20) (v := ?vB20) rfl (by kernel_rfl) (by kernel_rfl) (by kernel_rfl) (fun _ _ _ h => h) (Or.inl ⟨by rfl, ?hyB20⟩) hS ?restB20
          case hyB20 =>
            intro w hSw
            first | (go_simp; done) | (go_simp; with_reducible rfl)
          try simp only [Act.put, List.setIfInBounds_toArray, List.set_cons_zero, List.set_cons_succ]
          refine wpAnyH_take (i := 21) (v := ?vB21) rfl (by kernel_rfl) (by kernel_rfl) (by kernel_rfl) (fun _ _ _ h => h) (Or.inl ⟨by kernel_rfl, ?hyB21⟩) hS ?restB21
          case hyB21 =>
            intro w hSw
            first | (go_simp; done) | (go_simp; with_reducible rfl)
          try simp only [Act.put, List.setIfInBounds_toArray, List.set_cons_zero, List.set_cons_succ]
          refine wpAnyH_take (i := 22) (v := ?vB22) rfl (by kernel_rfl) (by kernel_rfl) (by kernel_rfl) (fun _ _ _ h => h) (Or.inl ⟨by kernel_rfl, ?hyB22⟩) hS ?restB22
          case hyB22 =>
            intro w hSw
            have k0 := f0 w hSw; have k1 := f1 w hSw; have k2 := f2 w hSw; have k3 := f3 w hSw; have k4 := lkN w hSw
            first | (go_simp; done) | (go_simp; with_reducible rfl)
          try simp only [Act.put, List.setIfInBounds_toArray, List.set_cons_zero, List.set_cons_succ]
          refine wpAnyH_take (i := 23) (v := ?vB23) rfl (by kernel_rfl) (by kernel_rfl) (by kernel_rfl) (fun _ _ _ h => h) (Or.inl ⟨by kernel_rfl, ?hyB23⟩) hS ?restB23
          case hyB23 =>
            intro w hSw
            first | (go_simp; done) | (go_simp; with_reducible rfl)
          try simp only [Act.put, List.setIfInBounds_toArray, List.set_cons_zero, List.set_cons_succ]
          refine wpAnyH_take (i := 24) (v := ?vB24) rfl (by kernel_rfl) (by kernel_rfl) (by kernel_rfl) (fun _ _ _ h => h) (Or.inl ⟨by kernel_rfl, ?hyB24⟩) hS ?restB24
          case hyB24 =>
            intro w hSw
            first | (go_simp; done) | (go_simp; with_reducible rfl)
          try simp only [Act.put, List.setIfInBounds_toArray, List.set_cons_zero, List.set_cons_succ]
          refine wpAnyH_take (i := 25) (v := ?vB25) rfl (by kernel_rfl) (by kernel_rfl) (by kernel_rfl) (fun _ _ _ h => h) (Or.inl ⟨by rfl, ?hyB25⟩) hS ?restB25
          case hyB25 =>
            intro w hSw
            first | (go_simp; done) | (go_simp; with_reducible rfl)
          try simp only [Act.put, List.setIfInBounds_toArray, List.set_cons_zero, List.set_cons_succ]
          refine wpAnyH_ready (rs := [26]) (by kernel_rfl) (by simp) ?_
          refine AllReadyH.cons rfl (fun K hK => ?_) AllReadyH.nil
          go_simp
          go_wp2_with ((go_at_call 86; refine (KW3.out _).mono ?_; rintro e w' ⟨rfl, rfl⟩))
          refine hK.out _ _ hS (fun _ => ?_)
          clear hK K
          refine wpAnyH_ready (rs := [27]) (by kernel_rfl) (by simp) ?_
          refine AllReadyH.cons rfl (fun K hK => ?_) AllReadyH.nil
          go_simp
          have hNv : v.ownBlock ≠ some w'.heap.size := fun h => Nat.lt_irrefl _ (hO.low h).2
          have hO := hO.alloc (.cells #[.int .i64 x0, .int .i64 x1, .int .i64 x2, .int .i64 x3] errT)
          have hS := hS.on (bel_alloc _ (.cells #[.int .i64 x0, .int .i64 x1, .int .i64 x2, .int .i64 x3] errT))
          refine hK.out _ _ hS (fun _ => ?_)
          clear hK K
          refine wpAnyH_ready (rs := [28]) (by kernel_rfl) (by simp) ?_
          refine AllReadyH.cons rfl (fun K hK => ?_) AllReadyH.nil
          go_simp
          go_wp2_with ((go_at_call 85; refine (fadd_any _ v _ _ w'.heap.size 4 4 [x0, x1, x2, x3] _ hO rfl (by omega) (errs_new w' _ rfl) hNv HFL.out).mono ?_; rintro e w8 ⟨v8, rfl, hO8, hC8⟩; have hS := hS.trans hC8.but (fun _ _ h => h)))
          refine hK.out _ _ hS (fun _ => ?_)
          clear hK K
          refine wpAnyH_take (i := 29) (v := ?vB29) rfl (by kernel_rfl) (by kernel_rfl) (by kernel_rfl) (fun _ _ _ h => h) (Or.inl ⟨by rfl, ?hyB29⟩) hS ?restB29
          case hyB29 =>
            intro w hSw
            first | (go_simp; done) | (go_simp; with_reducible rfl)
          try simp only [Act.put, List.setIfInBounds_toArray, List.set_cons_zero, List.set_cons_succ]
          refine wpAnyH_done (by kernel_rfl) ?_ _
          have y0 := f0 _ hS
          have y1 := f1 _ hS
          have y2 := f2 _ hS
          have y3 := f3 _ hS
          have hm9 := SX.map MM1.out hv1 hS
          have hm2 := SX.map MM2.out hv2 hS
          go_wp2_with (at_mapUpdate; refine wpList_put (en := Value.string) rfl _ _ _ 127 rfl strK str_inj Tryz.underlying127 rfl hm9 (by unfold maxLen; omega) b.name _ rfl HK.out ?_; intro w9 hm9 hg9; refine Hid.out ?_)
          have u0 := grown_cell hg9 y0 (by simp; omega)
          have u1 := grown_cell hg9 y1 (by simp; omega)
          have u2 := grown_cell hg9 y2 (by simp; omega)
          have u3 := grown_cell hg9 y3 (by simp; omega)
          have hm2 := MapK.grown hm2 hg9 (by simp)
          have hwMB : w.heap.size ≤ MB := by have := HMB.out; omega
          have hb8 : Below w.heap.size w w8 := HB6.out.trans (hS.below HB6.out.size (fun k hk hv => by have := (HO6.out.low hv).1; omega))
          have hb9 : Below w.heap.size w w9 := hb8.grown hg9 hb8.size (fun k hk => by cases hk; exact hwMB)
          have hO9 := hO8.grown hg9 (.inl (fun e => by have := (hO8.low e.symm).1; omega))
          have KC : Hid (Calls Tryz.prog 126 #[.string nm, .agg #[.string b.name, .int .i64 b.seats, .int .i64 b.over, .slice bA b.l.length b.c], .map (some (MB + 1))] w9 fun e w' => ∃ v', e = .returned v' ∧ FltL w' v' (clsF nm (codesB (l.take k)) b b.l.length) ∧ MapS w' (MB + 1) (30 * k + b.l.length) (gS (codesB (l.take k) ++ codesC b.l)) ∧ But w9 w' (fun k => k = MB + 1)) := Lib.hid (by
            have h := checkClasses_any nm b (codesB (l.take k)) (MB + 1) (30 * k) w9 HSZ.out (hAt.out.more hb9) HOC.out hm2 (by omega)
            dsimp only [aggCb] at h
            rw [← HA.out] at h
            exact h.mono (by rintro e w' ⟨v', rfl, h1, h2, h3⟩; exact ⟨v', rfl, h1.rowL rtF.len, h2, h3⟩))
          have HM9 := Lib.hid hm9
          have HO9 := Lib.hid hO9
          have HB9 := Lib.hid hb9
          have HLM : Hid ((cabF at_ l k ++ pick nm [x0, x1, x2, x3]).length + (clsF nm (codesB (l.take k)) b b.l.length).length ≤ 100000000) := Lib.hid (by
            have h1 := HFL.out
            have h2 := pick_le nm [x0, x1, x2, x3]
            have h3 := clsF_le nm (codesB (l.take k)) b b.l.length
            have h4 := HOC.out.len
            simp only [List.length_append, List.length_cons, List.length_nil] at h2 ⊢
            omega)
          clear hm9 hg9 hb9 hb8 hO8 hC8 hS hO y0 y1 y2 y3 hm2 hO9
          refine Lib.hid ?_
          go_wp2_with (first | (go_at_call 126; refine KC.out.mono ?_; rintro e w10 ⟨v10, rfl, hF10, hm10, hB10⟩) | (at_builtin; refine wpList_rappl rtF rfl _ _ rfl (HO9.out.grown hB10.grownBy (.inl (fun e => by have := (HO9.out.low e.symm).1; omega))) rfl _ _ rfl hF10 HLM.out ?_; intro v11 w11 hO11 hC11; refine Hid.out ?_))
          have hv11 : v8.ownBlock ≠ some MB := fun h => by have := (HO9.out.low h).1; omega
          have hv12 : v8.ownBlock ≠ some (MB + 1) := fun h => by have := (HO9.out.low h).1; omega
          have hb10 : Below w.heap.size w w10 := HB9.out.trans (but_below hB10 HB9.out.size (by omega))
          have HX : Hid (FOwn (MB + 2) w11 v11 (cabF at_ l (k + 1)) ∧ MapS w11 MB (k + 1) (gS ((l.take (k + 1)).map Cb.name)) ∧ MapS w11 (MB + 1) (30 * (k + 1)) (gS (codesB (l.take (k + 1)))) ∧ Below w.heap.size w w11) := Lib.hid ⟨by
              rw [HF.out, HEr.out, ← List.append_assoc]
              exact hO11, by
              rw [hT.out, ← HKP.out]
              exact (HM9.out.grown hB10.grownBy (by simp)).same (hC11.but.block MB (Nat.lt_of_lt_of_le HM9.out.lt hB10.size) hv11), by
              rw [hT2.out]
              exact (hm10.same (hC11.but.block (MB + 1) hm10.lt hv12)).mono (by have := HOC.out.len; omega), hb10.trans (hC11.but.below hb10.size (fun q hq h => by have := (HO9.out.low h).1; omega))⟩
          clear hO11 hC11 hB10 hm10 hF10 hb10
          refine Lib.hid ?_
          go_wp2
          go_roundw
          case rel => exact ⟨_, k + 1, rfl, by omega, by go_num, HX⟩
          case measure => simp [intOf]; omega
        | false =>
          have h9' : ¬ 26 < (b.l.length : Int) := of_decide_eq_false h9
          have HBT : Hid (bm = false) := Lib.hid (by rw [HBM.out, h0, h9]; rfl)
          obtain ⟨x0, hx0⟩ : ∃ x : Int, x = whC (!cb) 5 := ⟨_, rfl⟩
          obtain ⟨x1, hx1⟩ : ∃ x : Int, x = whC tw 6 := ⟨_, rfl⟩
          obtain ⟨x2, hx2⟩ : ∃ x : Int, x = whC (!sb) 2 := ⟨_, rfl⟩
          obtain ⟨x3, hx3⟩ : ∃ x : Int, x = whC false 4 := ⟨_, rfl⟩
          have KW0 : Hid (∀ W, Calls Tryz.prog 86 #[.bool (!cb), .int .i64 5] W fun r w' => r = .returned (.int .i64 x0) ∧ W = w') := Lib.hid (fun W => by rw [hx0]; exact fwhen_any (!cb) 5 W)
          have KW1 : Hid (∀ W, Calls Tryz.prog 86 #[.bool tw, .int .i64 6] W fun r w' => r = .returned (.int .i64 x1) ∧ W = w') := Lib.hid (fun W => by rw [hx1]; exact fwhen_any tw 6 W)
          have KW2 : Hid (∀ W, Calls Tryz.prog 86 #[.bool (!sb), .int .i64 2] W fun r w' => r = .returned (.int .i64 x2) ∧ W = w') := Lib.hid (fun W => by rw [hx2]; exact fwhen_any (!sb) 2 W)
          have KW3 : Hid (∀ W, Calls Tryz.prog 86 #[.bool false, .int .i64 4] W fun r w' => r = .returned (.int .i64 x3) ∧ W = w') := Lib.hid (fun W => by rw [hx3]; exact fwhen_any false 4 W)
          have HEr : Hid (cabE l k b = [x0, x1, x2, x3]) := Lib.hid (by rw [HEq.out, hx0, hx1, hx2, hx3, HBT.out])
          clear hx0 hx1 hx2 hx3 HEq HBT HBM
          have hS : (SX w6 v) _ := But.of_below (Below.refl _ _).drew
          refine wp_region_held_drew (S := SX w6 v) (by kernel_rfl) hS (fun _ => ?_)
          refine wpAnyH_take (i := 0) (v := ?vC0) rfl (by kernel_rfl) (by kernel_rfl) (by kernel_rfl) (fun _ _ _ h => h) (Or.inl ⟨by rfl, ?hyC0⟩) hS ?restC0
          case hyC0 =>
            intro w hSw
            first | (go_simp; done) | (go_simp; with_reducible rfl)
          try simp only [Act.put, List.setIfInBounds_toArray, List.set_cons_zero, List.set_cons_succ]
          refine wpAnyH_take (i := 1) (v := ?vC1) rfl (by kernel_rfl) (by kernel_rfl) (by kernel_rfl) (fun _ _ _ h => h) (Or.inl ⟨by rfl, ?hyC1⟩) hS ?restC1
          case hyC1 =>
            intro w hSw
            first | (go_simp; done) | (go_simp; with_reducible rfl)
          try simp only [Act.put, List.setIfInBounds_toArray, List.set_cons_zero, List.set_cons_succ]
          refine wpAnyH_take (i := 2) (v := ?vC2) rfl (by kernel_rfl) (by kernel_rfl) (by kernel_rfl) (fun _ _ _ h => h) (Or.inl ⟨by rfl, ?hyC2⟩) hS ?restC2
          case hyC2 =>
            intro w hSw
            first | (go_simp; done) | (go_simp; with_reducible rfl)
          try simp only [Act.put, List.setIfInBounds_toArray, List.set_cons_zero, List.set_cons_succ]
          refine wpAnyH_take (i := 3) (v := ?vC3) rfl (by kernel_rfl) (by kernel_rfl) (by kernel_rfl) (fun _ _ _ h => h) (Or.inl ⟨by rfl, ?hyC3⟩) hS ?restC3
          case hyC3 =>
            intro w hSw
            have k0 := f0 w hSw; have k1 := f1 w hSw; have k2 := f2 w hSw; have k3 := f3 w hSw; have k4 := lkN w hSw
            first | (go_simp; done) | (go_simp; with_reducible rfl)
          try simp only [Act.put, List.setIfInBounds_toArray, List.set_cons_zero, List.set_cons_succ]
          refine wpAnyH_take (i := 7) (v := ?vC7) rfl (by kernel_rfl) (by kernel_rfl) (by kernel_rfl) (fun _ _ _ h => h) (Or.inl ⟨by rfl, ?hyC7⟩) hS ?restC7
          case hyC7 =>
            intro w hSw
            first | (go_simp; done) | (go_simp; with_reducible rfl)
          try simp only [Act.put, List.setIfInBounds_toArray, List.set_cons_zero, List.set_cons_succ]
          refine wpAnyH_take (i := 8) (v := ?vC8) rfl (by kernel_rfl) (by kernel_rfl) (by kernel_rfl) (fun _ _ _ h => h) (Or.inl ⟨by rfl, ?hyC8⟩) hS ?restC8
          case hyC8 =>
            intro w hSw
            first | (go_simp; done) | (go_simp; with_reducible rfl)
          try simp only [Act.put, List.setIfInBounds_toArray, List.set_cons_zero, List.set_cons_succ]
          refine wpAnyH_take (i := 9) (v := ?vC9) rfl (by kernel_rfl) (by kernel_rfl) (by kernel_rfl) (fun _ _ _ h => h) (Or.inl ⟨by rfl, ?hyC9⟩) hS ?restC9
          case hyC9 =>
            intro w hSw
            have k0 := f0 w hSw; have k1 := f1 w hSw; have k2 := f2 w hSw; have k3 := f3 w hSw; have k4 := lkN w hSw
            first | (go_simp; done) | (go_simp; with_reducible rfl)
          try simp only [Act.put, List.setIfInBounds_toArray, List.set_cons_zero, List.set_cons_succ]
          refine wpAnyH_take (i := 10) (v := ?vC10) rfl (by kernel_rfl) (by kernel_rfl) (by kernel_rfl) (fun _ _ _ h => h) (Or.inl ⟨by rfl, ?hyC10⟩) hS ?restC10
          case hyC10 =>
            intro w hSw
            have k0 := f0 w hSw; have k1 := f1 w hSw; have k2 := f2 w hSw; have k3 := f3 w hSw; have k4 := lkN w hSw
            first | (go_simp; done) | (go_simp; with_reducible rfl)
          try simp only [Act.put, List.setIfInBounds_toArray, List.set_cons_zero, List.set_cons_succ]
          refine wpAnyH_take (i := 12) (v := ?vC12) rfl (by kernel_rfl) (by kernel_rfl) (by kernel_rfl) (fun _ _ _ h => h) (Or.inl ⟨by rfl, ?hyC12⟩) hS ?restC12
          case hyC12 =>
            intro w hSw
            have k0 := f0 w hSw; have k1 := f1 w hSw; have k2 := f2 w hSw; have k3 := f3 w hSw; have k4 := lkN w hSw
            first | (go_simp; done) | (go_simp; with_reducible rfl)
          try simp only [Act.put, List.setIfInBounds_toArray, List.set_cons_zero, List.set_cons_succ]
          refine wpAnyH_take (i := 16) (v := ?vC16) rfl (by kernel_rfl) (by kernel_rfl) (by kernel_rfl) (fun _ _ _ h => h) (Or.inl ⟨by rfl, ?hyC16⟩) hS ?restC16
          case hyC16 =>
            intro w hSw
            first | (go_simp; done) | (go_simp; with_reducible rfl)
          try simp only [Act.put, List.setIfInBounds_toArray, List.set_cons_zero, List.set_cons_succ]
          refine wpAnyH_take (i := 17) (v := ?vC17) rfl (by kernel_rfl) (by kernel_rfl) (by kernel_rfl) (fun _ _ _ h => h) (Or.inl ⟨by rfl, ?hyC17⟩) hS ?restC17
          case hyC17 =>
            intro w hSw
            have k0 := f0 w hSw; have k1 := f1 w hSw; have k2 := f2 w hSw; have k3 := f3 w hSw; have k4 := lkN w hSw
            first | (go_simp; done) | (go_simp; with_reducible rfl)
          try simp only [Act.put, List.setIfInBounds_toArray, List.set_cons_zero, List.set_cons_succ]
          refine wpAnyH_take (i := 18) (v := ?vC18) rfl (by kernel_rfl) (by kernel_rfl) (by kernel_rfl) (fun _ _ _ h => h) (Or.inl ⟨by rfl, ?hyC18⟩) hS ?restC18
          case hyC18 =>
            intro w hSw
            first | (go_simp; done) | (go_simp; with_reducible rfl)
          try simp only [Act.put, List.setIfInBounds_toArray, List.set_cons_zero, List.set_cons_succ]
          refine wpAnyH_take (i := 19) (v := ?vC19) rfl (by kernel_rfl) (by kernel_rfl) (by kernel_rfl) (fun _ _ _ h => h) (Or.inl ⟨by rfl, ?hyC19⟩) hS ?restC19
          case hyC19 =>
            intro w hSw
            first | (go_simp; done) | (go_simp; with_reducible rfl)
          try simp only [Act.put, List.setIfInBounds_toArray, List.set_cons_zero, List.set_cons_succ]
          refine wpAnyH_ready (rs := [4]) (by kernel_rfl) (by simp) ?_
          refine AllReadyH.cons rfl (fun K hK => ?_) AllReadyH.nil
          go_simp
          go_wp2_with ((go_at_call 87; refine (KU.out _).mono ?_; rintro e w' ⟨rfl, rfl⟩))
          refine hK.out _ _ hS (fun _ => ?_)
          clear hK K
          refine wpAnyH_take (i := 5) (v := ?vC5) rfl (by kernel_rfl) (by kernel_rfl) (by kernel_rfl) (fun _ _ _ h => h) (Or.inl ⟨by rfl, ?hyC5⟩) hS ?restC5
          case hyC5 =>
            intro w hSw
            first | (go_simp; done) | (go_simp; with_reducible rfl)
          try simp only [Act.put, List.setIfInBounds_toArray, List.set_cons_zero, List.set_cons_succ]
          refine wpAnyH_ready (rs := [6]) (by kernel_rfl) (by simp) ?_
          refine AllReadyH.cons rfl (fun K hK => ?_) AllReadyH.nil
          go_simp
          go_wp2_with ((go_at_call 86; refine (KW0.out _).mono ?_; rintro e w' ⟨rfl, rfl⟩))
          refine hK.out _ _ hS (fun _ => ?_)
          clear hK K
          refine wpAnyH_ready (rs := [11]) (by kernel_rfl) (by simp) ?_
          refine AllReadyH.cons rfl (fun K hK => ?_) AllReadyH.nil
          go_simp
          go_wp2_with ((go_at_call 86; refine (KW1.out _).mono ?_; rintro e w' ⟨rfl, rfl⟩))
          refine hK.out _ _ hS (fun _ => ?_)
          clear hK K
          refine wpAnyH_ready (rs := [13]) (by kernel_rfl) (by simp) ?_
          refine AllReadyH.cons rfl (fun K hK => ?_) AllReadyH.nil
          go_simp
          go_wp2_with ((go_at_call 125; refine (KZ.out _).mono ?_; rintro e w' ⟨rfl, hb'⟩; have hO := hO.more hb'; have hS := hS.on hb'))
          refine hK.out _ _ hS (fun _ => ?_)
          clear hK K
          refine wpAnyH_take (i := 14) (v := ?vC14) rfl (by kernel_rfl) (by kernel_rfl) (by kernel_rfl) (fun _ _ _ h => h) (Or.inl ⟨by rfl, ?hyC14⟩) hS ?restC14
          case hyC14 =>
            intro w hSw
            first | (go_simp; done) | (go_simp; with_reducible rfl)
          try simp only [Act.put, List.setIfInBounds_toArray, List.set_cons_zero, List.set_cons_succ]
          refine wpAnyH_ready (rs := [15]) (by kernel_rfl) (by simp) ?_
          refine AllReadyH.cons rfl (fun K hK => ?_) AllReadyH.nil
          go_simp
          go_wp2_with ((go_at_call 86; refine (KW2.out _).mono ?_; rintro e w' ⟨rfl, rfl⟩))
          refine hK.out _ _ hS (fun _ => ?_)
          clear hK K
          refine wpAnyH_take (i := 20) (v := ?vC20) rfl (by kernel_rfl) (by kernel_rfl) (by kernel_rfl) (fun _ _ _ h => h) (Or.inl ⟨by rfl, ?hyC20⟩) hS ?restC20
          case hyC20 =>
            intro w hSw
            first | (go_simp; done) | (go_simp; with_reducible rfl)
          try simp only [Act.put, List.setIfInBounds_toArray, List.set_cons_zero, List.set_cons_succ]
          refine wpAnyH_take (i := 21) (v := ?vC21) rfl (by kernel_rfl) (by kernel_rfl) (by kernel_rfl) (fun _ _ _ h => h) (Or.inl ⟨by kernel_rfl, ?hyC21⟩) hS ?restC21
          case hyC21 =>
            intro w hSw
            first | (go_simp; done) | (go_simp; with_reducible rfl)
          try simp only [Act.put, List.setIfInBounds_toArray, List.set_cons_zero, List.set_cons_succ]
          refine wpAnyH_take (i := 22) (v := ?vC22) rfl (by kernel_rfl) (by kernel_rfl) (by kernel_rfl) (fun _ _ _ h => h) (Or.inl ⟨by kernel_rfl, ?hyC22⟩) hS ?restC22
          case hyC22 =>
            intro w hSw
            have k0 := f0 w hSw; have k1 := f1 w hSw; have k2 := f2 w hSw; have k3 := f3 w hSw; have k4 := lkN w hSw
            first | (go_simp; done) | (go_simp; with_reducible rfl)
          try simp only [Act.put, List.setIfInBounds_toArray, List.set_cons_zero, List.set_cons_succ]
          refine wpAnyH_take (i := 23) (v := ?vC23) rfl (by kernel_rfl) (by kernel_rfl) (by kernel_rfl) (fun _ _ _ h => h) (Or.inl ⟨by kernel_rfl, ?hyC23⟩) hS ?restC23
          case hyC23 =>
            intro w hSw
            first | (go_simp; done) | (go_simp; with_reducible rfl)
          try simp only [Act.put, List.setIfInBounds_toArray, List.set_cons_zero, List.set_cons_succ]
          refine wpAnyH_take (i := 24) (v := ?vC24) rfl (by kernel_rfl) (by kernel_rfl) (by kernel_rfl) (fun _ _ _ h => h) (Or.inl ⟨by kernel_rfl, ?hyC24⟩) hS ?restC24
          case hyC24 =>
            intro w hSw
            first | (go_simp; done) | (go_simp; with_reducible rfl)
          try simp only [Act.put, List.setIfInBounds_toArray, List.set_cons_zero, List.set_cons_succ]
          refine wpAnyH_take (i := 25) (v := ?vC25) rfl (by kernel_rfl) (by kernel_rfl) (by kernel_rfl) (fun _ _ _ h => h) (Or.inl ⟨by rfl, ?hyC25⟩) hS ?restC25
          case hyC25 =>
            intro w hSw
            first | (go_simp; done) | (go_simp; with_reducible rfl)
          try simp only [Act.put, List.setIfInBounds_toArray, List.set_cons_zero, List.set_cons_succ]
          refine wpAnyH_ready (rs := [26]) (by kernel_rfl) (by simp) ?_
          refine AllReadyH.cons rfl (fun K hK => ?_) AllReadyH.nil
          go_simp
          go_wp2_with ((go_at_call 86; refine (KW3.out _).mono ?_; rintro e w' ⟨rfl, rfl⟩))
          refine hK.out _ _ hS (fun _ => ?_)
          clear hK K
          refine wpAnyH_ready (rs := [27]) (by kernel_rfl) (by simp) ?_
          refine AllReadyH.cons rfl (fun K hK => ?_) AllReadyH.nil
          go_simp
          have hNv : v.ownBlock ≠ some w'.heap.size := fun h => Nat.lt_irrefl _ (hO.low h).2
          have hO := hO.alloc (.cells #[.int .i64 x0, .int .i64 x1, .int .i64 x2, .int .i64 x3] errT)
          have hS := hS.on (bel_alloc _ (.cells #[.int .i64 x0, .int .i64 x1, .int .i64 x2, .int .i64 x3] errT))
          refine hK.out _ _ hS (fun _ => ?_)
          clear hK K
          refine wpAnyH_ready (rs := [28]) (by kernel_rfl) (by simp) ?_
          refine AllReadyH.cons rfl (fun K hK => ?_) AllReadyH.nil
          go_simp
          go_wp2_with ((go_at_call 85; refine (fadd_any _ v _ _ w'.heap.size 4 4 [x0, x1, x2, x3] _ hO rfl (by omega) (errs_new w' _ rfl) hNv HFL.out).mono ?_; rintro e w8 ⟨v8, rfl, hO8, hC8⟩; have hS := hS.trans hC8.but (fun _ _ h => h)))
          refine hK.out _ _ hS (fun _ => ?_)
          clear hK K
          refine wpAnyH_take (i := 29) (v := ?vC29) rfl (by kernel_rfl) (by kernel_rfl) (by kernel_rfl) (fun _ _ _ h => h) (Or.inl ⟨by rfl, ?hyC29⟩) hS ?restC29
          case hyC29 =>
            intro w hSw
            first | (go_simp; done) | (go_simp; with_reducible rfl)
          try simp only [Act.put, List.setIfInBounds_toArray, List.set_cons_zero, List.set_cons_succ]
          refine wpAnyH_done (by kernel_rfl) ?_ _
          have y0 := f0 _ hS
          have y1 := f1 _ hS
          have y2 := f2 _ hS
          have y3 := f3 _ hS
          have hm9 := SX.map MM1.out hv1 hS
          have hm2 := SX.map MM2.out hv2 hS
          go_wp2_with (at_mapUpdate; refine wpList_put (en := Value.string) rfl _ _ _ 127 rfl strK str_inj Tryz.underlying127 rfl hm9 (by unfold maxLen; omega) b.name _ rfl HK.out ?_; intro w9 hm9 hg9; refine Hid.out ?_)
          have u0 := grown_cell hg9 y0 (by simp; omega)
          have u1 := grown_cell hg9 y1 (by simp; omega)
          have u2 := grown_cell hg9 y2 (by simp; omega)
          have u3 := grown_cell hg9 y3 (by simp; omega)
          have hm2 := MapK.grown hm2 hg9 (by simp)
          have hwMB : w.heap.size ≤ MB := by have := HMB.out; omega
          have hb8 : Below w.heap.size w w8 := HB6.out.trans (hS.below HB6.out.size (fun k hk hv => by have := (HO6.out.low hv).1; omega))
          have hb9 : Below w.heap.size w w9 := hb8.grown hg9 hb8.size (fun k hk => by cases hk; exact hwMB)
          have hO9 := hO8.grown hg9 (.inl (fun e => by have := (hO8.low e.symm).1; omega))
          have KC : Hid (Calls Tryz.prog 126 #[.string nm, .agg #[.string b.name, .int .i64 b.seats, .int .i64 b.over, .slice bA b.l.length b.c], .map (some (MB + 1))] w9 fun e w' => ∃ v', e = .returned v' ∧ FltL w' v' (clsF nm (codesB (l.take k)) b b.l.length) ∧ MapS w' (MB + 1) (30 * k + b.l.length) (gS (codesB (l.take k) ++ codesC b.l)) ∧ But w9 w' (fun k => k = MB + 1)) := Lib.hid (by
            have h := checkClasses_any nm b (codesB (l.take k)) (MB + 1) (30 * k) w9 HSZ.out (hAt.out.more hb9) HOC.out hm2 (by omega)
            dsimp only [aggCb] at h
            rw [← HA.out] at h
            exact h.mono (by rintro e w' ⟨v', rfl, h1, h2, h3⟩; exact ⟨v', rfl, h1.rowL rtF.len, h2, h3⟩))
          have HM9 := Lib.hid hm9
          have HO9 := Lib.hid hO9
          have HB9 := Lib.hid hb9
          have HLM : Hid ((cabF at_ l k ++ pick nm [x0, x1, x2, x3]).length + (clsF nm (codesB (l.take k)) b b.l.length).length ≤ 100000000) := Lib.hid (by
            have h1 := HFL.out
            have h2 := pick_le nm [x0, x1, x2, x3]
            have h3 := clsF_le nm (codesB (l.take k)) b b.l.length
            have h4 := HOC.out.len
            simp only [List.length_append, List.length_cons, List.length_nil] at h2 ⊢
            omega)
          clear hm9 hg9 hb9 hb8 hO8 hC8 hS hO y0 y1 y2 y3 hm2 hO9
          refine Lib.hid ?_
          go_wp2_with (first | (go_at_call 126; refine KC.out.mono ?_; rintro e w10 ⟨v10, rfl, hF10, hm10, hB10⟩) | (at_builtin; refine wpList_rappl rtF rfl _ _ rfl (HO9.out.grown hB10.grownBy (.inl (fun e => by have := (HO9.out.low e.symm).1; omega))) rfl _ _ rfl hF10 HLM.out ?_; intro v11 w11 hO11 hC11; refine Hid.out ?_))
          have hv11 : v8.ownBlock ≠ some MB := fun h => by have := (HO9.out.low h).1; omega
          have hv12 : v8.ownBlock ≠ some (MB + 1) := fun h => by have := (HO9.out.low h).1; omega
          have hb10 : Below w.heap.size w w10 := HB9.out.trans (but_below hB10 HB9.out.size (by omega))
          have HX : Hid (FOwn (MB + 2) w11 v11 (cabF at_ l (k + 1)) ∧ MapS w11 MB (k + 1) (gS ((l.take (k + 1)).map Cb.name)) ∧ MapS w11 (MB + 1) (30 * (k + 1)) (gS (codesB (l.take (k + 1)))) ∧ Below w.heap.size w w11) := Lib.hid ⟨by
              rw [HF.out, HEr.out, ← List.append_assoc]
              exact hO11, by
              rw [hT.out, ← HKP.out]
              exact (HM9.out.grown hB10.grownBy (by simp)).same (hC11.but.block MB (Nat.lt_of_lt_of_le HM9.out.lt hB10.size) hv11), by
              rw [hT2.out]
              exact (hm10.same (hC11.but.block (MB + 1) hm10.lt hv12)).mono (by have := HOC.out.len; omega), hb10.trans (hC11.but.below hb10.size (fun q hq h => by have := (HO9.out.low h).1; omega))⟩
          clear hO11 hC11 hB10 hm10 hF10 hb10
          refine Lib.hid ?_
          go_wp2
          go_roundw
          case rel => exact ⟨_, k + 1, rfl, by omega, by go_num, HX⟩
          case measure => simp [intOf]; omega
    · have HE : Hid (k = l.length) := Lib.hid (by omega)
      have HR : Hid (FOwn w.heap.size wr v (cabF at_ l l.length) ∧ Below w.heap.size w wr) := Lib.hid ⟨⟨by have := HJ.out.1.own; rw [HE.out] at this; exact this.mono (by have := HMB.out; omega), HJ.out.2.2.2.size⟩, HJ.out.2.2.2⟩
      clear HJ
      go_wp2
      go_ret
      exact ⟨_, rfl, HR.out⟩

end Go.Proofs.YtjmahmeionakaaaGreatDoor
