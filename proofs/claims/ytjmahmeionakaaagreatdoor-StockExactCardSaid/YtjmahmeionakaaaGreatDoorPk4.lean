/- Words and walks that the laws below ask: CabB. -/
import Derived.Deep.RegionHeld3
import Derived.OrdersHeld
import Derived.Deep.CutRange
import Derived.Deep.CutBlock
import Derived.Test.YtjmahmeionakaaaGreatDoorPk3
/- Walk of checkClasses. -/
namespace Go.Proofs.YtjmahmeionakaaaGreatDoor
open Go.RowKit Go.Shelf Go.Maps
set_option linter.unusedSimpArgs false
set_option linter.unusedVariables false

theorem class_any (s : ByteArray) (w : World) (hs : s.size ≤ maxLen) : Calls Tryz.prog 143 #[.string s] w fun e w' => e = .returned (.bool (capsB s 1)) ∧ w = w' := by
  go_enter Tryz.func143, Tryz.ntmps143
  go_wp2_with (go_at_call 160; refine (capitals_any _ _ _ hs).mono ?_; rintro e w' ⟨rfl, rfl⟩)
  go_ret
  exact ⟨rfl, rfl⟩
theorem rclass_any (s : ByteArray) (w : World) (hs : s.size ≤ maxLen) : Calls Tryz.prog 135 #[.string s] w fun e w' => e = .returned (.bool (capsB s 1)) ∧ w = w' := by
  go_enter Tryz.func135, Tryz.ntmps135
  go_wp2_with (go_at_call 148; refine (letters_any _ _ _ hs).mono ?_; rintro e w' ⟨rfl, rfl⟩)
  go_ret
  exact ⟨rfl, rfl⟩
theorem cell_no_map {w : World} {a : Addr} {x : Value} {b n : Nat} {g : ByteArray → Option Value} (hc : w.cell? a = some x) (hm : MapS w b n g) : a.block ≠ b := by
  obtain ⟨es, clock, hb, _⟩ := hm
  rintro rfl
  simp [World.cell?, hb] at hc
theorem RowL.but {α : Type} {enc : α → List Value} {sz : Nat} {w w' : World} {v : Value} {l : List α} {b n : Nat} {g : ByteArray → Option Value} (h : RowL sz enc w v l) (hm : MapS w b n g) (hb : But w w' (fun k => k = b)) : RowL sz enc w' v l := by
  obtain ⟨A, c, rfl, h⟩ := h
  refine ⟨A, c, rfl, ?_⟩
  rcases h with h | ⟨b0, o, rfl, hlt, hc⟩
  · exact .inl h
  · refine .inr ⟨b0, o, rfl, Nat.lt_of_lt_of_le hlt hb.size, fun i x j u hi hu => ?_⟩
    have h0 := hc i x j u hi hu
    exact (World.cell?_of_block (hb.block b0 hlt (cell_no_map h0 hm))).trans h0
theorem CbL.but {w w' : World} {v : Value} {l : List Cb} {b n : Nat} {g : ByteArray → Option Value} (h : CbL w v l) (hm : MapS w b n g) (hb : But w w' (fun k => k = b)) : CbL w' v l :=
  ⟨h.1.but hm hb, fun x hx => RowL.but (h.2 x hx) hm hb⟩
theorem grown_cell {w w' : World} {row : Option Nat} (hg : w.grownBy w' row) {a : Addr} {x : Value} (hc : w.cell? a = some x) (hne : some a.block ≠ row) : w'.cell? a = some x :=
  (World.cell?_of_block (hg.block a.block (World.block_lt_of_cell? _ _ hc) hne)).trans hc
theorem But.grown {w w' w'' : World} {X : Nat → Prop} {row : Option Nat} (h : But w w' X) (hg : w'.grownBy w'' row) (hX : ∀ k, row = some k → k < w.heap.size → X k) : But w w'' X :=
  ⟨hg.os.trans h.os, hg.tape.trans h.tape, hg.output.trans h.output, Nat.le_trans h.size hg.size, fun k hk hn => (hg.block k (Nat.lt_of_lt_of_le hk h.size) (fun e => hn (hX k e.symm hk))).trans (h.block k hk hn)⟩
theorem But.low {w w' w'' : World} {X Y : Nat → Prop} (h : But w w' X) (h' : But w' w'' Y) (hY : ∀ k, k < w.heap.size → Y k → X k) : But w w'' X :=
  ⟨h'.os.trans h.os, h'.tape.trans h.tape, h'.output.trans h.output, Nat.le_trans h.size h'.size, fun k hk hn => (h'.block k (Nat.lt_of_lt_of_le hk h.size) (fun hy => hn (hY k hk hy))).trans (h.block k hk hn)⟩

set_option maxRecDepth 100000 in
set_option maxHeartbeats 16000000 in
theorem checkClasses_any (at_ : ByteArray) (b : Cb) (S : List ByteArray) (CB n : Nat) (w : World) (ha : at_.size ≤ 200) (hb : CbAt w b) (hok : OkCb b) (hm : MapS w CB n (gS S)) (hn : n ≤ 10000) :
    Calls Tryz.prog 126 #[.string at_, aggCb b, .map (some CB)] w fun e w' => ∃ v', e = .returned v' ∧ FOwn w.heap.size w' v' (clsF at_ S b b.l.length) ∧ MapS w' CB (n + b.l.length) (gS (S ++ codesC b.l)) ∧ But w w' (fun k => k = CB) := by
  have hCB := hm.lt
  have HOK := Lib.hid hok.cls
  have HLN := Lib.hid hok.len
  have b1 := bel_alloc w (.cells #[.string b.name, .int .i64 b.seats, .int .i64 b.over, .slice b.A b.l.length b.c] cbT)
  have z0 := (cells_new w #[.string b.name, .int .i64 b.seats, .int .i64 b.over, .slice b.A b.l.length b.c] cbT 0).trans (show _ = some (Value.string b.name) from rfl)
  have z1 := (cells_new w #[.string b.name, .int .i64 b.seats, .int .i64 b.over, .slice b.A b.l.length b.c] cbT 1).trans (show _ = some (Value.int .i64 b.seats) from rfl)
  have z2 := (cells_new w #[.string b.name, .int .i64 b.seats, .int .i64 b.over, .slice b.A b.l.length b.c] cbT 2).trans (show _ = some (Value.int .i64 b.over) from rfl)
  have z3 := (cells_new w #[.string b.name, .int .i64 b.seats, .int .i64 b.over, .slice b.A b.l.length b.c] cbT 3).trans (show _ = some (Value.slice b.A b.l.length b.c) from rfl)
  have KZ := Lib.hid (fun W => isSized_any b W)
  obtain ⟨A, hA⟩ : ∃ A, A = b.A := ⟨_, rfl⟩
  have HB : Hid (ClL w (.slice A b.l.length b.c) b.l) := Lib.hid (by rw [hA]; exact hb)
  have HA := Lib.hid hA
  clear hA
  have HM := Lib.hid hm
  have HN := Lib.hid hn
  clear hb hm hn hok
  obtain ⟨w1, hw1⟩ : ∃ w1, w1 = w.alloc (.cells #[.string b.name, .int .i64 b.seats, .int .i64 b.over, .slice b.A b.l.length b.c] cbT) := ⟨_, rfl⟩
  rw [← hw1] at b1 z0 z1 z2 z3
  obtain ⟨Z, hZ⟩ : ∃ Z, Z = w.heap.size := ⟨_, rfl⟩
  have HZ := Lib.hid hZ
  rw [← hZ] at z0 z1 z2 z3
  go_enter Tryz.func126, Tryz.ntmps126
  go_upto_region 3 with fail
  rw [← hw1, ← hZ]
  clear hZ
  have B1 := Lib.hid b1
  clear hw1 b1
  go_upto_if 13 with (go_at_call 125; refine (KZ.out _).mono ?_; rintro e w2 ⟨rfl, hb2⟩)
  have y0 := bel_cell hb2 z0
  have y1 := bel_cell hb2 z1
  have y2 := bel_cell hb2 z2
  have y3 := bel_cell hb2 z3
  have B2 := Lib.hid (B1.out.trans (hb2.mono B1.out.size))
  clear z0 z1 z2 z3 hb2
  go_cut [9] from 12 (fun v9 wx => v9 = .int .i64 (mostP b) ∧ Below w2.heap.size w2 wx)
  case first =>
    cases hz : sizB b with
    | true =>
      have KA := Lib.hid (fun W => auth_any b W hz)
      have HR : Hid (mostP b = b.seats + b.over) := Lib.hid (by unfold mostP; rw [if_pos hz])
      go_wp2_with (go_at_call 80; refine (KA.out _).mono ?_; rintro e w3 ⟨rfl, hb3⟩)
      go_meet
      exact ⟨by rw [HR.out], hb3⟩
    | false =>
      have HR : Hid (mostP b = 9223372036854775807) := Lib.hid (by unfold mostP; rw [hz]; rfl)
      go_wp2
      go_meet
      exact ⟨by rw [HR.out], Below.refl _ _⟩
  case rest =>
    obtain ⟨rfl, hb3⟩ := hcut
    have x3 := bel_cell hb3 y3
    rw [← HA.out] at x3
    try rw [← HA.out]
    clear HA
    have B3 := Lib.hid (B2.out.trans (hb3.mono B2.out.size))
    clear y0 y1 y2 y3 hb3 B1 B2 KZ
    have HI : Hid (FOwn w.heap.size wc (.slice none 0 0) (clsF at_ S b 0) ∧ MapS wc CB (n + 0) (gS (S ++ codesC (b.l.take 0))) ∧ But w wc (fun k => k = CB)) := Lib.hid ⟨ROwn.nil B3.out.size, by rw [show S ++ codesC (b.l.take 0) = S by simp [codesC]]; exact HM.out.more B3.out, But.of_below B3.out⟩
    go_wp2
    go_loopw [7, 8, 19] (fun s7 s8 vi W => ∃ (v : Value) (k : Nat), v = s7 ∧ k ≤ b.l.length ∧ vi = .int .i64 k ∧ s8 = .int .i64 (leastP b.l k) ∧ Hid (FOwn w.heap.size W v (clsF at_ S b k) ∧ MapS W CB (n + k) (gS (S ++ codesC (b.l.take k))) ∧ But w W (fun k => k = CB))) (fun _ _ vi _ => b.l.length - (intOf vi).toNat)
    case atStart => exact ⟨_, 0, rfl, Nat.zero_le _, rfl, rfl, HI⟩
    case round =>
      obtain ⟨v, k, rfl, hk, rfl, rfl, HJ⟩ := hrel
      clear HI
      by_cases hlt : k < b.l.length
      · obtain ⟨x, hkc⟩ : ∃ x, b.l[k]? = some x := ⟨_, List.getElem?_eq_getElem hlt⟩
        obtain ⟨bb, off, e1, hbl, hc⟩ := row_get (RowL.but HB.out HM.out HJ.out.2.2) hkc
        cases e1
        have i2 : (k : Int) < (b.l.length : Int) := by omega
        have d0 := hc 0 _ rfl
        have d1 := hc 1 _ rfl
        rw [Nat.add_zero] at d0
        have hokc := HOK.out x (List.mem_of_getElem? hkc)
        have hT := Lib.hid (codesC_snoc b.l k x hkc)
        have HF := Lib.hid (clsF_succ at_ S b k x hkc)
        have HFL : Hid ((clsF at_ S b k).length ≤ 1000000) := Lib.hid (by have := clsF_le at_ S b k; have := HLN.out; omega)
        have hLP : Hid (leastP b.l (k + 1) = max x.prot 0) := Lib.hid (by simp only [leastP, hkc]; split <;> omega)
        have HKG := Lib.hid (gS_get (S ++ codesC (b.l.take k)) x.code)
        have HKP := Lib.hid (gS_put (S ++ codesC (b.l.take k)) x.code)
        have hkey := str_key x.code hokc.code
        have hb1 := bel_alloc wr (.cells #[.string x.code, .int .i64 x.prot] clT)
        have q0 := (cells_new wr #[.string x.code, .int .i64 x.prot] clT 0).trans (show _ = some (Value.string x.code) from rfl)
        have q1 := (cells_new wr #[.string x.code, .int .i64 x.prot] clT 1).trans (show _ = some (Value.int .i64 x.prot) from rfl)
        have HO6 := Lib.hid (HJ.out.1.more hb1)
        have mm1 := HJ.out.2.1.more hb1
        have hb6 : But w (wr.alloc (.cells #[.string x.code, .int .i64 x.prot] clT)) (fun k => k = CB) := HJ.out.2.2.on hb1
        have hvN : v.ownBlock ≠ some wr.heap.size := fun h => Nat.lt_irrefl _ (HJ.out.1.low h).2
        have hv1 : v.ownBlock ≠ some CB := fun h => by have := (HJ.out.1.low h).1; omega
        have hNC : CB < wr.heap.size := Nat.lt_of_lt_of_le hCB HJ.out.2.2.size
        have hBE : w.heap.size ≤ wr.heap.size := HJ.out.2.2.size
        have HEq : Hid (clsE S b k x = [whC (!capsB x.code 1) 16, whC (anyS (S ++ codesC (b.l.take k)) x.code) 6, whC (badP b k x) 2]) := Lib.hid rfl
        have HBM : Hid (badP b k x = (decide (x.prot < leastP b.l k) || decide (mostP b < x.prot))) := Lib.hid rfl
        obtain ⟨NB, hNB⟩ : ∃ NB, NB = wr.heap.size := ⟨_, rfl⟩
        have HNB := Lib.hid hNB
        rw [← hNB] at q0 q1 hvN hNC hBE
        clear hb1 HJ hkc hc hbl
        generalize leastP b.l k = le at *
        generalize mostP b = mo at *
        go_upto_region 8 with fail
        rw [← hNB]
        clear d0 d1 hNB
        generalize wr.alloc (.cells #[.string x.code, .int .i64 x.prot] clT) = w6 at *
        have f0 : ∀ W, SX w6 v W → W.cell? ⟨NB, 0, none⟩ = some (.string x.code) := fun W h => SX.cell q0 hvN h
        have f1 : ∀ W, SX w6 v W → W.cell? ⟨NB, 1, none⟩ = some (.int .i64 x.prot) := fun W h => SX.cell q1 hvN h
        have lkN : ∀ W, SX w6 v W → (Instr.lookup 127 (.map (some CB)) (.string x.code) false).run Tryz.prog W = .ok (.bool (anyS (S ++ codesC (b.l.take k)) x.code)) W := fun W h => by
          have h := lookB (SX.map mm1 hv1 h) x.code hokc.code
          rw [HKG.out] at h
          exact h
        have KU := Lib.hid (fun W => class_any x.code W hokc.code)
        have KD := Lib.hid (dec_small k (by have := HLN.out; omega))
        have hadd1 : ∀ W : World, (Op.stringOp .add at_ ⟨#[32, 99, 108, 97, 115, 115, 32]⟩).run Tryz.prog W = .ok (.string (at_ ++ clsW)) W := fun W => run_string_add_sum W _ _ (by have e : (⟨#[32, 99, 108, 97, 115, 115, 32]⟩ : ByteArray).size = 7 := rfl; omega)
        have hadd2 : ∀ W : World, (Op.stringOp .add (at_ ++ clsW) (decA k)).run Tryz.prog W = .ok (.string (at_ ++ clsW ++ decA k)) W := fun W => run_string_add_sum W _ _ (by have := decA_size k (by have := HLN.out; omega); have e : clsW.size = 7 := rfl; simp only [ByteArray.size_append]; omega)
        have HK := Lib.hid hkey
        have MM1 := Lib.hid mm1
        have HB6 := Lib.hid hb6
        have hO := HO6.out.more ((Below.refl _ w6).drew)
        generalize hnm : at_ ++ clsW ++ decA k = nm at *
        generalize at_ ++ clsW = nm1 at *
        generalize decA k = sk at *
        generalize anyS (S ++ codesC (b.l.take k)) x.code = tw at *
        generalize capsB x.code 1 = cb at *
        generalize badP b k x = bm at *
        have HQ1 := Lib.hid q1
        clear mm1 q0 q1 hb6 HKG hkey hokc hnm
        cases h0 : decide (x.prot < le) with
        | true =>
          have h0' : x.prot < le := of_decide_eq_true h0
          have HBT : Hid (bm = true) := Lib.hid (by rw [HBM.out, h0]; rfl)
          obtain ⟨x0, hx0⟩ : ∃ x : Int, x = whC (!cb) 16 := ⟨_, rfl⟩
          obtain ⟨x1, hx1⟩ : ∃ x : Int, x = whC tw 6 := ⟨_, rfl⟩
          obtain ⟨x2, hx2⟩ : ∃ x : Int, x = whC true 2 := ⟨_, rfl⟩
          have KW0 : Hid (∀ W, Calls Tryz.prog 86 #[.bool (!cb), .int .i64 16] W fun r w' => r = .returned (.int .i64 x0) ∧ W = w') := Lib.hid (fun W => by rw [hx0]; exact fwhen_any (!cb) 16 W)
          have KW1 : Hid (∀ W, Calls Tryz.prog 86 #[.bool tw, .int .i64 6] W fun r w' => r = .returned (.int .i64 x1) ∧ W = w') := Lib.hid (fun W => by rw [hx1]; exact fwhen_any tw 6 W)
          have KW2 : Hid (∀ W, Calls Tryz.prog 86 #[.bool true, .int .i64 2] W fun r w' => r = .returned (.int .i64 x2) ∧ W = w') := Lib.hid (fun W => by rw [hx2]; exact fwhen_any true 2 W)
          have HEr : Hid (clsE S b k x = [x0, x1, x2]) := Lib.hid (by rw [HEq.out, hx0, hx1, hx2, HBT.out])
          clear hx0 hx1 hx2 HEq HBT HBM
          have hS : (SX w6 v) _ := But.of_below (Below.refl _ _).drew
          refine wp_region_held_drew (S := SX w6 v) (by kernel_rfl) hS (fun _ => ?_)
          refine wpAnyH_take (i := 0) (v := ?vA0) rfl (by kernel_rfl) (by kernel_rfl) (by kernel_rfl) (fun _ _ _ h => h) (Or.inl ⟨by rfl, ?hyA0⟩) hS ?restA0
          case hyA0 =>
            intro w hSw
            first | (go_simp; done) | (go_simp; with_reducible rfl)
          try simp only [Act.put, List.setIfInBounds_toArray, List.set_cons_zero, List.set_cons_succ]
          refine wpAnyH_take (i := 1) (v := ?vA1) rfl (by kernel_rfl) (by kernel_rfl) (by kernel_rfl) (fun _ _ _ h => h) (Or.inl ⟨by rfl, ?hyA1⟩) hS ?restA1
          case hyA1 =>
            intro w hSw
            first | (go_simp; done) | (go_simp; with_reducible rfl)
          try simp only [Act.put, List.setIfInBounds_toArray, List.set_cons_zero, List.set_cons_succ]
          refine wpAnyH_take (i := 2) (v := ?vA2) rfl (by kernel_rfl) (by kernel_rfl) (by kernel_rfl) (fun _ _ _ h => h) (Or.inl ⟨by rfl, ?hyA2⟩) hS ?restA2
          case hyA2 =>
            intro w hSw
            have kadd := hadd1 w
            first | (go_simp; done) | (go_simp; with_reducible rfl)
          try simp only [Act.put, List.setIfInBounds_toArray, List.set_cons_zero, List.set_cons_succ]
          refine wpAnyH_take (i := 3) (v := ?vA3) rfl (by kernel_rfl) (by kernel_rfl) (by kernel_rfl) (fun _ _ _ h => h) (Or.inl ⟨by rfl, ?hyA3⟩) hS ?restA3
          case hyA3 =>
            intro w hSw
            first | (go_simp; done) | (go_simp; with_reducible rfl)
          try simp only [Act.put, List.setIfInBounds_toArray, List.set_cons_zero, List.set_cons_succ]
          refine wpAnyH_take (i := 6) (v := ?vA6) rfl (by kernel_rfl) (by kernel_rfl) (by kernel_rfl) (fun _ _ _ h => h) (Or.inl ⟨by rfl, ?hyA6⟩) hS ?restA6
          case hyA6 =>
            intro w hSw
            first | (go_simp; done) | (go_simp; with_reducible rfl)
          try simp only [Act.put, List.setIfInBounds_toArray, List.set_cons_zero, List.set_cons_succ]
          refine wpAnyH_take (i := 7) (v := ?vA7) rfl (by kernel_rfl) (by kernel_rfl) (by kernel_rfl) (fun _ _ _ h => h) (Or.inl ⟨by rfl, ?hyA7⟩) hS ?restA7
          case hyA7 =>
            intro w hSw
            have k0 := f0 w hSw; have k1 := f1 w hSw; have k2 := lkN w hSw
            first | (go_simp; done) | (go_simp; with_reducible rfl)
          try simp only [Act.put, List.setIfInBounds_toArray, List.set_cons_zero, List.set_cons_succ]
          refine wpAnyH_take (i := 11) (v := ?vA11) rfl (by kernel_rfl) (by kernel_rfl) (by kernel_rfl) (fun _ _ _ h => h) (Or.inl ⟨by rfl, ?hyA11⟩) hS ?restA11
          case hyA11 =>
            intro w hSw
            first | (go_simp; done) | (go_simp; with_reducible rfl)
          try simp only [Act.put, List.setIfInBounds_toArray, List.set_cons_zero, List.set_cons_succ]
          refine wpAnyH_take (i := 12) (v := ?vA12) rfl (by kernel_rfl) (by kernel_rfl) (by kernel_rfl) (fun _ _ _ h => h) (Or.inl ⟨by rfl, ?hyA12⟩) hS ?restA12
          case hyA12 =>
            intro w hSw
            first | (go_simp; done) | (go_simp; with_reducible rfl)
          try simp only [Act.put, List.setIfInBounds_toArray, List.set_cons_zero, List.set_cons_succ]
          refine wpAnyH_take (i := 13) (v := ?vA13) rfl (by kernel_rfl) (by kernel_rfl) (by kernel_rfl) (fun _ _ _ h => h) (Or.inl ⟨by rfl, ?hyA13⟩) hS ?restA13
          case hyA13 =>
            intro w hSw
            have k0 := f0 w hSw; have k1 := f1 w hSw; have k2 := lkN w hSw
            first | (go_simp; done) | (go_simp; with_reducible rfl)
          try simp only [Act.put, List.setIfInBounds_toArray, List.set_cons_zero, List.set_cons_succ]
          refine wpAnyH_take (i := 14) (v := ?vA14) rfl (by kernel_rfl) (by kernel_rfl) (by kernel_rfl) (fun _ _ _ h => h) (Or.inl ⟨by rfl, ?hyA14⟩) hS ?restA14
          case hyA14 =>
            intro w hSw
            have k0 := f0 w hSw; have k1 := f1 w hSw; have k2 := lkN w hSw
            first | (go_simp; done) | (go_simp; with_reducible rfl)
          try simp only [Act.put, List.setIfInBounds_toArray, List.set_cons_zero, List.set_cons_succ]
          refine wpAnyH_take (i := 16) (v := ?vA16) rfl (by kernel_rfl) (by kernel_rfl) (by kernel_rfl) (fun _ _ _ h => h) (Or.inl ⟨by rfl, ?hyA16⟩) hS ?restA16
          case hyA16 =>
            intro w hSw
            first | (go_simp; done) | (go_simp; with_reducible rfl)
          try simp only [Act.put, List.setIfInBounds_toArray, List.set_cons_zero, List.set_cons_succ]
          refine wpAnyH_take (i := 17) (v := ?vA17) rfl (by kernel_rfl) (by kernel_rfl) (by kernel_rfl) (fun _ _ _ h => h) (Or.inl ⟨by rfl, ?hyA17⟩) hS ?restA17
          case hyA17 =>
            intro w hSw
            have k0 := f0 w hSw; have k1 := f1 w hSw; have k2 := lkN w hSw
            first | (go_simp; done) | (go_simp; with_reducible rfl)
          try simp only [Act.put, List.setIfInBounds_toArray, List.set_cons_zero, List.set_cons_succ]
          refine wpAnyH_take (i := 18) (v := ?vA18) rfl (by kernel_rfl) (by kernel_rfl) (by kernel_rfl) (fun _ _ _ h => h) (Or.inl ⟨by rfl, ?hyA18⟩) hS ?restA18
          case hyA18 =>
            intro w hSw
            first | (go_simp; done) | (go_simp; with_reducible rfl)
          try simp only [Act.put, List.setIfInBounds_toArray, List.set_cons_zero, List.set_cons_succ]
          refine wpAnyH_take (i := 19) (v := ?vA19) rfl (by kernel_rfl) (by kernel_rfl) (by kernel_rfl) (fun _ _ _ h => h) (Or.inl ⟨by rfl, ?hyA19⟩) hS ?restA19
          case hyA19 =>
            intro w hSw
            first | (go_simp; done) | (go_simp; with_reducible rfl)
          try simp only [Act.put, List.setIfInBounds_toArray, List.set_cons_zero, List.set_cons_succ]
          refine wpAnyH_ready (rs := [4]) (by kernel_rfl) (by simp) ?_
          refine AllReadyH.cons rfl (fun K hK => ?_) AllReadyH.nil
          go_simp
          go_wp2_with ((go_at_call 84; refine (KD.out _).mono ?_; rintro e w' ⟨rfl, rfl⟩))
          refine hK.out _ _ hS (fun _ => ?_)
          clear hK K
          refine wpAnyH_take (i := 5) (v := ?vA5) rfl (by kernel_rfl) (by kernel_rfl) (by kernel_rfl) (fun _ _ _ h => h) (Or.inl ⟨by rfl, ?hyA5⟩) hS ?restA5
          case hyA5 =>
            intro w hSw
            have kadd := hadd2 w
            first | (go_simp; done) | (go_simp; with_reducible rfl)
          try simp only [Act.put, List.setIfInBounds_toArray, List.set_cons_zero, List.set_cons_succ]
          refine wpAnyH_ready (rs := [8]) (by kernel_rfl) (by simp) ?_
          refine AllReadyH.cons rfl (fun K hK => ?_) AllReadyH.nil
          go_simp
          go_wp2_with ((go_at_call 143; refine (KU.out _).mono ?_; rintro e w' ⟨rfl, rfl⟩))
          refine hK.out _ _ hS (fun _ => ?_)
          clear hK K
          refine wpAnyH_take (i := 9) (v := ?vA9) rfl (by kernel_rfl) (by kernel_rfl) (by kernel_rfl) (fun _ _ _ h => h) (Or.inl ⟨by rfl, ?hyA9⟩) hS ?restA9
          case hyA9 =>
            intro w hSw
            first | (go_simp; done) | (go_simp; with_reducible rfl)
          try simp only [Act.put, List.setIfInBounds_toArray, List.set_cons_zero, List.set_cons_succ]
          refine wpAnyH_ready (rs := [10]) (by kernel_rfl) (by simp) ?_
          refine AllReadyH.cons rfl (fun K hK => ?_) AllReadyH.nil
          go_simp
          go_wp2_with ((go_at_call 86; refine (KW0.out _).mono ?_; rintro e w' ⟨rfl, rfl⟩))
          refine hK.out _ _ hS (fun _ => ?_)
          clear hK K
          refine wpAnyH_ready (rs := [15]) (by kernel_rfl) (by simp) ?_
          refine AllReadyH.cons rfl (fun K hK => ?_) AllReadyH.nil
          go_simp
          go_wp2_with ((go_at_call 86; refine (KW1.out _).mono ?_; rintro e w' ⟨rfl, rfl⟩))
          refine hK.out _ _ hS (fun _ => ?_)
          clear hK K
          refine wpAnyH_take (i := 20) (v := ?vA20) rfl (by kernel_rfl) (by kernel_rfl) (by kernel_rfl) (fun _ _ _ h => h) (Or.inl ⟨by rfl, ?hyA20⟩) hS ?restA20
          case hyA20 =>
            intro w hSw
            first | (go_simp; done) | (go_simp; with_reducible rfl)
          try simp only [Act.put, List.setIfInBounds_toArray, List.set_cons_zero, List.set_cons_succ]
          refine wpAnyH_take (i := 21) (v := undef) rfl (by kernel_rfl) (by kernel_rfl) (by kernel_rfl) (fun _ _ _ h => h) (Or.inr ⟨by kernel_rfl, rfl⟩) hS ?_
          try simp only [Act.put, List.setIfInBounds_toArray, List.set_cons_zero, List.set_cons_succ]
          refine wpAnyH_take (i := 22) (v := undef) rfl (by kernel_rfl) (by kernel_rfl) (by kernel_rfl) (fun _ _ _ h => h) (Or.inr ⟨by kernel_rfl, rfl⟩) hS ?_
          try simp only [Act.put, List.setIfInBounds_toArray, List.set_cons_zero, List.set_cons_succ]
          refine wpAnyH_take (i := 23) (v := undef) rfl (by kernel_rfl) (by kernel_rfl) (by kernel_rfl) (fun _ _ _ h => h) (Or.inr ⟨by kernel_rfl, rfl⟩) hS ?_
          try simp only [Act.put, List.setIfInBounds_toArray, List.set_cons_zero, List.set_cons_succ]
          refine wpAnyH_take (i := 24) (v := undef) rfl (by kernel_rfl) (by kernel_rfl) (by kernel_rfl) (fun _ _ _ h => h) (Or.inr ⟨by kernel_rfl, rfl⟩) hS ?_
          try simp only [Act.put, List.setIfInBounds_toArray, List.set_cons_zero, List.set_cons_succ]
          refine wpAnyH_take (i := 25) (v := ?vA25) rfl (by kernel_rfl) (by kernel_rfl) (by kernel_rfl) (fun _ _ _ h => h) (Or.inl ⟨by rfl, ?hyA25⟩) hS ?restA25
          case hyA25 =>
            intro w hSw
            first | (go_simp; done) | (go_simp; with_reducible rfl)
          try simp only [Act.put, List.setIfInBounds_toArray, List.set_cons_zero, List.set_cons_succ]
          refine wpAnyH_ready (rs := [26]) (by kernel_rfl) (by simp) ?_
          refine AllReadyH.cons rfl (fun K hK => ?_) AllReadyH.nil
          go_simp
          go_wp2_with ((go_at_call 86; refine (KW2.out _).mono ?_; rintro e w' ⟨rfl, rfl⟩))
          refine hK.out _ _ hS (fun _ => ?_)
          clear hK K
          refine wpAnyH_ready (rs := [27]) (by kernel_rfl) (by simp) ?_
          refine AllReadyH.cons rfl (fun K hK => ?_) AllReadyH.nil
          go_simp
          have hNv : v.ownBlock ≠ some w6.drew.heap.size := fun h => Nat.lt_irrefl _ (hO.low h).2
          have hO := hO.alloc (.cells #[.int .i64 x0, .int .i64 x1, .int .i64 x2] errT)
          have hS := hS.on (bel_alloc _ (.cells #[.int .i64 x0, .int .i64 x1, .int .i64 x2] errT))
          refine hK.out _ _ hS (fun _ => ?_)
          clear hK K
          refine wpAnyH_ready (rs := [28]) (by kernel_rfl) (by simp) ?_
          refine AllReadyH.cons rfl (fun K hK => ?_) AllReadyH.nil
          go_simp
          go_wp2_with ((go_at_call 85; refine (fadd_any _ v _ _ w6.drew.heap.size 3 3 [x0, x1, x2] _ hO rfl (by omega) (errs_new w6.drew _ rfl) hNv HFL.out).mono ?_; rintro e w8 ⟨v8, rfl, hO8, hC8⟩; have hS := hS.trans hC8.but (fun _ _ h => h)))
          refine hK.out _ _ hS (fun _ => ?_)
          clear hK K
          refine wpAnyH_take (i := 29) (v := ?vA29) rfl (by kernel_rfl) (by kernel_rfl) (by kernel_rfl) (fun _ _ _ h => h) (Or.inl ⟨by rfl, ?hyA29⟩) hS ?restA29
          case hyA29 =>
            intro w hSw
            first | (go_simp; done) | (go_simp; with_reducible rfl)
          try simp only [Act.put, List.setIfInBounds_toArray, List.set_cons_zero, List.set_cons_succ]
          refine wpAnyH_done (by kernel_rfl) ?_ _
          have y0 := f0 _ hS
          have y1 := f1 _ hS
          have hm9 := SX.map MM1.out hv1 hS
          go_wp2_with (at_mapUpdate; refine wpList_put (en := Value.string) rfl _ _ _ 127 rfl strK str_inj Tryz.underlying127 rfl hm9 (by have := HN.out; have := HLN.out; unfold maxLen; omega) x.code _ rfl HK.out ?_; intro w9 hm9 hg9; refine Hid.out ?_)
          have u1 := grown_cell hg9 y1 (by simp; omega)
          have hb8 : But w w8 (fun k => k = CB) := HB6.out.low hS (fun k hk hv => by have := (HO6.out.low hv).1; omega)
          have hb9 : But w w9 (fun k => k = CB) := hb8.grown hg9 (fun k hk _ => by cases hk; rfl)
          have HX : Hid (FOwn w.heap.size w9 v8 (clsF at_ S b (k + 1)) ∧ MapS w9 CB (n + (k + 1)) (gS (S ++ codesC (b.l.take (k + 1)))) ∧ But w w9 (fun k => k = CB)) := Lib.hid ⟨by
              rw [HF.out, HEr.out]
              exact hO8.grown hg9 (.inl (fun e => by have := (hO8.low e.symm).1; omega)), by rw [hT.out, ← List.append_assoc, ← HKP.out]; exact hm9, hb9⟩
          clear hm9 hg9 hb9 hb8 hO8 hC8 hS hO y0 y1
          refine Lib.hid ?_
          have hk30 : k < 30 := by have := HLN.out; omega
          go_wp2
          go_roundw
          case rel => exact ⟨_, k + 1, rfl, by omega, by go_num, by first | (rw [hLP.out]; done) | (rw [hLP.out]; congr 1; split <;> omega), HX⟩
          case measure => simp [intOf]; omega
        | false =>
          have h0' : ¬ x.prot < le := of_decide_eq_false h0
          cases h9 : decide (mo < x.prot) with
          | true =>
            have h9' : mo < x.prot := of_decide_eq_true h9
            have HBT : Hid (bm = true) := Lib.hid (by rw [HBM.out, h9, Bool.or_true])
            obtain ⟨x0, hx0⟩ : ∃ x : Int, x = whC (!cb) 16 := ⟨_, rfl⟩
            obtain ⟨x1, hx1⟩ : ∃ x : Int, x = whC tw 6 := ⟨_, rfl⟩
            obtain ⟨x2, hx2⟩ : ∃ x : Int, x = whC true 2 := ⟨_, rfl⟩
            have KW0 : Hid (∀ W, Calls Tryz.prog 86 #[.bool (!cb), .int .i64 16] W fun r w' => r = .returned (.int .i64 x0) ∧ W = w') := Lib.hid (fun W => by rw [hx0]; exact fwhen_any (!cb) 16 W)
            have KW1 : Hid (∀ W, Calls Tryz.prog 86 #[.bool tw, .int .i64 6] W fun r w' => r = .returned (.int .i64 x1) ∧ W = w') := Lib.hid (fun W => by rw [hx1]; exact fwhen_any tw 6 W)
            have KW2 : Hid (∀ W, Calls Tryz.prog 86 #[.bool true, .int .i64 2] W fun r w' => r = .returned (.int .i64 x2) ∧ W = w') := Lib.hid (fun W => by rw [hx2]; exact fwhen_any true 2 W)
            have HEr : Hid (clsE S b k x = [x0, x1, x2]) := Lib.hid (by rw [HEq.out, hx0, hx1, hx2, HBT.out])
            clear hx0 hx1 hx2 HEq HBT HBM
            have hS : (SX w6 v) _ := But.of_below (Below.refl _ _).drew
            refine wp_region_held_drew (S := SX w6 v) (by kernel_rfl) hS (fun _ => ?_)
            refine wpAnyH_take (i := 0) (v := ?vB0) rfl (by kernel_rfl) (by kernel_rfl) (by kernel_rfl) (fun _ _ _ h => h) (Or.inl ⟨by rfl, ?hyB0⟩) hS ?restB0
            case hyB0 =>
              intro w hSw
              first | (go_simp; done) | (go_simp; with_reducible rfl)
            try simp only [Act.put, List.setIfInBounds_toArray, List.set_cons_zero, List.set_cons_succ]
            refine wpAnyH_take (i := 1) (v := ?vB1) rfl (by kernel_rfl) (by kernel_rfl) (by kernel_rfl) (fun _ _ _ h => h) (Or.inl ⟨by rfl, ?hyB1⟩) hS ?restB1
            case hyB1 =>
              intro w hSw
              first | (go_simp; done) | (go_simp; with_reducible rfl)
            try simp only [Act.put, List.setIfInBounds_toArray, List.set_cons_zero, List.set_cons_succ]
            refine wpAnyH_take (i := 2) (v := ?vB2) rfl (by kernel_rfl) (by kernel_rfl) (by kernel_rfl) (fun _ _ _ h => h) (Or.inl ⟨by rfl, ?hyB2⟩) hS ?restB2
            case hyB2 =>
              intro w hSw
              have kadd := hadd1 w
              first | (go_simp; done) | (go_simp; with_reducible rfl)
            try simp only [Act.put, List.setIfInBounds_toArray, List.set_cons_zero, List.set_cons_succ]
            refine wpAnyH_take (i := 3) (v := ?vB3) rfl (by kernel_rfl) (by kernel_rfl) (by kernel_rfl) (fun _ _ _ h => h) (Or.inl ⟨by rfl, ?hyB3⟩) hS ?restB3
            case hyB3 =>
              intro w hSw
              first | (go_simp; done) | (go_simp; with_reducible rfl)
            try simp only [Act.put, List.setIfInBounds_toArray, List.set_cons_zero, List.set_cons_succ]
            refine wpAnyH_take (i := 6) (v := ?vB6) rfl (by kernel_rfl) (by kernel_rfl) (by kernel_rfl) (fun _ _ _ h => h) (Or.inl ⟨by rfl, ?hyB6⟩) hS ?restB6
            case hyB6 =>
              intro w hSw
              first | (go_simp; done) | (go_simp; with_reducible rfl)
            try simp only [Act.put, List.setIfInBounds_toArray, List.set_cons_zero, List.set_cons_succ]
            refine wpAnyH_take (i := 7) (v := ?vB7) rfl (by kernel_rfl) (by kernel_rfl) (by kernel_rfl) (fun _ _ _ h => h) (Or.inl ⟨by rfl, ?hyB7⟩) hS ?restB7
            case hyB7 =>
              intro w hSw
              have k0 := f0 w hSw; have k1 := f1 w hSw; have k2 := lkN w hSw
              first | (go_simp; done) | (go_simp; with_reducible rfl)
            try simp only [Act.put, List.setIfInBounds_toArray, List.set_cons_zero, List.set_cons_succ]
            refine wpAnyH_take (i := 11) (v := ?vB11) rfl (by kernel_rfl) (by kernel_rfl) (by kernel_rfl) (fun _ _ _ h => h) (Or.inl ⟨by rfl, ?hyB11⟩) hS ?restB11
            case hyB11 =>
              intro w hSw
              first | (go_simp; done) | (go_simp; with_reducible rfl)
            try simp only [Act.put, List.setIfInBounds_toArray, List.set_cons_zero, List.set_cons_succ]
            refine wpAnyH_take (i := 12) (v := ?vB12) rfl (by kernel_rfl) (by kernel_rfl) (by kernel_rfl) (fun _ _ _ h => h) (Or.inl ⟨by rfl, ?hyB12⟩) hS ?restB12
            case hyB12 =>
              intro w hSw
              first | (go_simp; done) | (go_simp; with_reducible rfl)
            try simp only [Act.put, List.setIfInBounds_toArray, List.set_cons_zero, List.set_cons_succ]
            refine wpAnyH_take (i := 13) (v := ?vB13) rfl (by kernel_rfl) (by kernel_rfl) (by kernel_rfl) (fun _ _ _ h => h) (Or.inl ⟨by rfl, ?hyB13⟩) hS ?restB13
            case hyB13 =>
              intro w hSw
              have k0 := f0 w hSw; have k1 := f1 w hSw; have k2 := lkN w hSw
              first | (go_simp; done) | (go_simp; with_reducible rfl)
            try simp only [Act.put, List.setIfInBounds_toArray, List.set_cons_zero, List.set_cons_succ]
            refine wpAnyH_take (i := 14) (v := ?vB14) rfl (by kernel_rfl) (by kernel_rfl) (by kernel_rfl) (fun _ _ _ h => h) (Or.inl ⟨by rfl, ?hyB14⟩) hS ?restB14
            case hyB14 =>
              intro w hSw
              have k0 := f0 w hSw; have k1 := f1 w hSw; have k2 := lkN w hSw
              first | (go_simp; done) | (go_simp; with_reducible rfl)
            try simp only [Act.put, List.setIfInBounds_toArray, List.set_cons_zero, List.set_cons_succ]
            refine wpAnyH_take (i := 16) (v := ?vB16) rfl (by kernel_rfl) (by kernel_rfl) (by kernel_rfl) (fun _ _ _ h => h) (Or.inl ⟨by rfl, ?hyB16⟩) hS ?restB16
            case hyB16 =>
              intro w hSw
              first | (go_simp; done) | (go_simp; with_reducible rfl)
            try simp only [Act.put, List.setIfInBounds_toArray, List.set_cons_zero, List.set_cons_succ]
            refine wpAnyH_take (i := 17) (v := ?vB17) rfl (by kernel_rfl) (by kernel_rfl) (by kernel_rfl) (fun _ _ _ h => h) (Or.inl ⟨by rfl, ?hyB17⟩) hS ?restB17
            case hyB17 =>
              intro w hSw
              have k0 := f0 w hSw; have k1 := f1 w hSw; have k2 := lkN w hSw
              first | (go_simp; done) | (go_simp; with_reducible rfl)
            try simp only [Act.put, List.setIfInBounds_toArray, List.set_cons_zero, List.set_cons_succ]
            refine wpAnyH_take (i := 18) (v := ?vB18) rfl (by kernel_rfl) (by kernel_rfl) (by kernel_rfl) (fun _ _ _ h => h) (Or.inl ⟨by rfl, ?hyB18⟩) hS ?restB18
            case hyB18 =>
              intro w hSw
              first | (go_simp; done) | (go_simp; with_reducible rfl)
            try simp only [Act.put, List.setIfInBounds_toArray, List.set_cons_zero, List.set_cons_succ]
            refine wpAnyH_take (i := 19) (v := ?vB19) rfl (by kernel_rfl) (by kernel_rfl) (by kernel_rfl) (fun _ _ _ h => h) (Or.inl ⟨by rfl, ?hyB19⟩) hS ?restB19
            case hyB19 =>
              intro w hSw
              first | (go_simp; done) | (go_simp; with_reducible rfl)
            try simp only [Act.put, List.setIfInBounds_toArray, List.set_cons_zero, List.set_cons_succ]
            refine wpAnyH_ready (rs := [4]) (by kernel_rfl) (by simp) ?_
            refine AllReadyH.cons rfl (fun K hK => ?_) AllReadyH.nil
            go_simp
            go_wp2_with ((go_at_call 84; refine (KD.out _).mono ?_; rintro e w' ⟨rfl, rfl⟩))
            refine hK.out _ _ hS (fun _ => ?_)
            clear hK K
            refine wpAnyH_take (i := 5) (v := ?vB5) rfl (by kernel_rfl) (by kernel_rfl) (by kernel_rfl) (fun _ _ _ h => h) (Or.inl ⟨by rfl, ?hyB5⟩) hS ?restB5
            case hyB5 =>
              intro w hSw
              have kadd := hadd2 w
              first | (go_simp; done) | (go_simp; with_reducible rfl)
            try simp only [Act.put, List.setIfInBounds_toArray, List.set_cons_zero, List.set_cons_succ]
            refine wpAnyH_ready (rs := [8]) (by kernel_rfl) (by simp) ?_
            refine AllReadyH.cons rfl (fun K hK => ?_) AllReadyH.nil
            go_simp
            go_wp2_with ((go_at_call 143; refine (KU.out _).mono ?_; rintro e w' ⟨rfl, rfl⟩))
            refine hK.out _ _ hS (fun _ => ?_)
            clear hK K
            refine wpAnyH_take (i := 9) (v := ?vB9) rfl (by kernel_rfl) (by kernel_rfl) (by kernel_rfl) (fun _ _ _ h => h) (Or.inl ⟨by rfl, ?hyB9⟩) hS ?restB9
            case hyB9 =>
              intro w hSw
              first | (go_simp; done) | (go_simp; with_reducible rfl)
            try simp only [Act.put, List.setIfInBounds_toArray, List.set_cons_zero, List.set_cons_succ]
            refine wpAnyH_ready (rs := [10]) (by kernel_rfl) (by simp) ?_
            refine AllReadyH.cons rfl (fun K hK => ?_) AllReadyH.nil
            go_simp
            go_wp2_with ((go_at_call 86; refine (KW0.out _).mono ?_; rintro e w' ⟨rfl, rfl⟩))
            refine hK.out _ _ hS (fun _ => ?_)
            clear hK K
            refine wpAnyH_ready (rs := [15]) (by kernel_rfl) (by simp) ?_
            refine AllReadyH.cons rfl (fun K hK => ?_) AllReadyH.nil
            go_simp
            go_wp2_with ((go_at_call 86; refine (KW1.out _).mono ?_; rintro e w' ⟨rfl, rfl⟩))
            refine hK.out _ _ hS (fun _ => ?_)
            clear hK K
            refine wpAnyH_take (i := 20) (v := ?vB20) rfl (by kernel_rfl) (by kernel_rfl) (by kernel_rfl) (fun _ _ _ h => h) (Or.inl ⟨by rfl, ?hyB20⟩) hS ?restB20
            case hyB20 =>
              intro w hSw
              first | (go_simp; done) | (go_simp; with_reducible rfl)
            try simp only [Act.put, List.setIfInBounds_toArray, List.set_cons_zero, List.set_cons_succ]
            refine wpAnyH_take (i := 21) (v := ?vB21) rfl (by kernel_rfl) (by kernel_rfl) (by kernel_rfl) (fun _ _ _ h => h) (Or.inl ⟨by kernel_rfl, ?hyB21⟩) hS ?restB21
            case hyB21 =>
              intro w hSw
              first | (go_simp; done) | (go_simp; with_reducible rfl)
            try simp only [Act.put, List.setIfInBounds_toArray, List.set_cons_zero, List.set_cons_succ]
            refine wpAnyH_take (i := 22) (v := ?vB22) rfl (by kernel_rfl) (by kernel_rfl) (by kernel_rfl) (fun _ _ _ h => h) (Or.inl ⟨by kernel_rfl, ?hyB22⟩) hS ?restB22
            case hyB22 =>
              intro w hSw
              have k0 := f0 w hSw; have k1 := f1 w hSw; have k2 := lkN w hSw
              first | (go_simp; done) | (go_simp; with_reducible rfl)
            try simp only [Act.put, List.setIfInBounds_toArray, List.set_cons_zero, List.set_cons_succ]
            refine wpAnyH_take (i := 23) (v := ?vB23) rfl (by kernel_rfl) (by kernel_rfl) (by kernel_rfl) (fun _ _ _ h => h) (Or.inl ⟨by kernel_rfl, ?hyB23⟩) hS ?restB23
            case hyB23 =>
              intro w hSw
              first | (go_simp; done) | (go_simp; with_reducible rfl)
            try simp only [Act.put, List.setIfInBounds_toArray, List.set_cons_zero, List.set_cons_succ]
            refine wpAnyH_take (i := 24) (v := ?vB24) rfl (by kernel_rfl) (by kernel_rfl) (by kernel_rfl) (fun _ _ _ h => h) (Or.inl ⟨by kernel_rfl, ?hyB24⟩) hS ?restB24
            case hyB24 =>
              intro w hSw
              first | (go_simp; done) | (go_simp; with_reducible rfl)
            try simp only [Act.put, List.setIfInBounds_toArray, List.set_cons_zero, List.set_cons_succ]
            refine wpAnyH_take (i := 25) (v := ?vB25) rfl (by kernel_rfl) (by kernel_rfl) (by kernel_rfl) (fun _ _ _ h => h) (Or.inl ⟨by rfl, ?hyB25⟩) hS ?restB25
            case hyB25 =>
              intro w hSw
              first | (go_simp; done) | (go_simp; with_reducible rfl)
            try simp only [Act.put, List.setIfInBounds_toArray, List.set_cons_zero, List.set_cons_succ]
            refine wpAnyH_ready (rs := [26]) (by kernel_rfl) (by simp) ?_
            refine AllReadyH.cons rfl (fun K hK => ?_) AllReadyH.nil
            go_simp
            go_wp2_with ((go_at_call 86; refine (KW2.out _).mono ?_; rintro e w' ⟨rfl, rfl⟩))
            refine hK.out _ _ hS (fun _ => ?_)
            clear hK K
            refine wpAnyH_ready (rs := [27]) (by kernel_rfl) (by simp) ?_
            refine AllReadyH.cons rfl (fun K hK => ?_) AllReadyH.nil
            go_simp
            have hNv : v.ownBlock ≠ some w6.drew.heap.size := fun h => Nat.lt_irrefl _ (hO.low h).2
            have hO := hO.alloc (.cells #[.int .i64 x0, .int .i64 x1, .int .i64 x2] errT)
            have hS := hS.on (bel_alloc _ (.cells #[.int .i64 x0, .int .i64 x1, .int .i64 x2] errT))
            refine hK.out _ _ hS (fun _ => ?_)
            clear hK K
            refine wpAnyH_ready (rs := [28]) (by kernel_rfl) (by simp) ?_
            refine AllReadyH.cons rfl (fun K hK => ?_) AllReadyH.nil
            go_simp
            go_wp2_with ((go_at_call 85; refine (fadd_any _ v _ _ w6.drew.heap.size 3 3 [x0, x1, x2] _ hO rfl (by omega) (errs_new w6.drew _ rfl) hNv HFL.out).mono ?_; rintro e w8 ⟨v8, rfl, hO8, hC8⟩; have hS := hS.trans hC8.but (fun _ _ h => h)))
            refine hK.out _ _ hS (fun _ => ?_)
            clear hK K
            refine wpAnyH_take (i := 29) (v := ?vB29) rfl (by kernel_rfl) (by kernel_rfl) (by kernel_rfl) (fun _ _ _ h => h) (Or.inl ⟨by rfl, ?hyB29⟩) hS ?restB29
            case hyB29 =>
              intro w hSw
              first | (go_simp; done) | (go_simp; with_reducible rfl)
            try simp only [Act.put, List.setIfInBounds_toArray, List.set_cons_zero, List.set_cons_succ]
            refine wpAnyH_done (by kernel_rfl) ?_ _
            have y0 := f0 _ hS
            have y1 := f1 _ hS
            have hm9 := SX.map MM1.out hv1 hS
            go_wp2_with (at_mapUpdate; refine wpList_put (en := Value.string) rfl _ _ _ 127 rfl strK str_inj Tryz.underlying127 rfl hm9 (by have := HN.out; have := HLN.out; unfold maxLen; omega) x.code _ rfl HK.out ?_; intro w9 hm9 hg9; refine Hid.out ?_)
            have u1 := grown_cell hg9 y1 (by simp; omega)
            have hb8 : But w w8 (fun k => k = CB) := HB6.out.low hS (fun k hk hv => by have := (HO6.out.low hv).1; omega)
            have hb9 : But w w9 (fun k => k = CB) := hb8.grown hg9 (fun k hk _ => by cases hk; rfl)
            have HX : Hid (FOwn w.heap.size w9 v8 (clsF at_ S b (k + 1)) ∧ MapS w9 CB (n + (k + 1)) (gS (S ++ codesC (b.l.take (k + 1)))) ∧ But w w9 (fun k => k = CB)) := Lib.hid ⟨by
                rw [HF.out, HEr.out]
                exact hO8.grown hg9 (.inl (fun e => by have := (hO8.low e.symm).1; omega)), by rw [hT.out, ← List.append_assoc, ← HKP.out]; exact hm9, hb9⟩
            clear hm9 hg9 hb9 hb8 hO8 hC8 hS hO y0 y1
            refine Lib.hid ?_
            have hk30 : k < 30 := by have := HLN.out; omega
            go_wp2
            go_roundw
            case rel => exact ⟨_, k + 1, rfl, by omega, by go_num, by first | (rw [hLP.out]; done) | (rw [hLP.out]; congr 1; split <;> omega), HX⟩
            case measure => simp [intOf]; omega
          | false =>
            have h9' : ¬ mo < x.prot := of_decide_eq_false h9
            have HBT : Hid (bm = false) := Lib.hid (by rw [HBM.out, h0, h9]; rfl)
            obtain ⟨x0, hx0⟩ : ∃ x : Int, x = whC (!cb) 16 := ⟨_, rfl⟩
            obtain ⟨x1, hx1⟩ : ∃ x : Int, x = whC tw 6 := ⟨_, rfl⟩
            obtain ⟨x2, hx2⟩ : ∃ x : Int, x = whC false 2 := ⟨_, rfl⟩
            have KW0 : Hid (∀ W, Calls Tryz.prog 86 #[.bool (!cb), .int .i64 16] W fun r w' => r = .returned (.int .i64 x0) ∧ W = w') := Lib.hid (fun W => by rw [hx0]; exact fwhen_any (!cb) 16 W)
            have KW1 : Hid (∀ W, Calls Tryz.prog 86 #[.bool tw, .int .i64 6] W fun r w' => r = .returned (.int .i64 x1) ∧ W = w') := Lib.hid (fun W => by rw [hx1]; exact fwhen_any tw 6 W)
            have KW2 : Hid (∀ W, Calls Tryz.prog 86 #[.bool false, .int .i64 2] W fun r w' => r = .returned (.int .i64 x2) ∧ W = w') := Lib.hid (fun W => by rw [hx2]; exact fwhen_any false 2 W)
            have HEr : Hid (clsE S b k x = [x0, x1, x2]) := Lib.hid (by rw [HEq.out, hx0, hx1, hx2, HBT.out])
            clear hx0 hx1 hx2 HEq HBT HBM
            have hS : (SX w6 v) _ := But.of_below (Below.refl _ _).drew
            refine wp_region_held_drew (S := SX w6 v) (by kernel_rfl) hS (fun _ => ?_)
            refine wpAnyH_take (i := 0) (v := ?vC0) rfl (by kernel_rfl) (by kernel_rfl) (by kernel_rfl) (fun _ _ _ h => h) (Or.inl ⟨by rfl, ?hyC0⟩) hS ?restC0
            case hyC0 =>
              intro w hSw
              first | (go_simp; done) | (go_simp; with_reducible rfl)
            try simp only [Act.put, List.setIfInBounds_toArray, List.set_cons_zero, List.set_cons_succ]
            refine wpAnyH_take (i := 1) (v := ?vC1) rfl (by kernel_rfl) (by kernel_rfl) (by kernel_rfl) (fun _ _ _ h => h) (Or.inl ⟨by rfl, ?hyC1⟩) hS ?restC1
            case hyC1 =>
              intro w hSw
              first | (go_simp; done) | (go_simp; with_reducible rfl)
            try simp only [Act.put, List.setIfInBounds_toArray, List.set_cons_zero, List.set_cons_succ]
            refine wpAnyH_take (i := 2) (v := ?vC2) rfl (by kernel_rfl) (by kernel_rfl) (by kernel_rfl) (fun _ _ _ h => h) (Or.inl ⟨by rfl, ?hyC2⟩) hS ?restC2
            case hyC2 =>
              intro w hSw
              have kadd := hadd1 w
              first | (go_simp; done) | (go_simp; with_reducible rfl)
            try simp only [Act.put, List.setIfInBounds_toArray, List.set_cons_zero, List.set_cons_succ]
            refine wpAnyH_take (i := 3) (v := ?vC3) rfl (by kernel_rfl) (by kernel_rfl) (by kernel_rfl) (fun _ _ _ h => h) (Or.inl ⟨by rfl, ?hyC3⟩) hS ?restC3
            case hyC3 =>
              intro w hSw
              first | (go_simp; done) | (go_simp; with_reducible rfl)
            try simp only [Act.put, List.setIfInBounds_toArray, List.set_cons_zero, List.set_cons_succ]
            refine wpAnyH_take (i := 6) (v := ?vC6) rfl (by kernel_rfl) (by kernel_rfl) (by kernel_rfl) (fun _ _ _ h => h) (Or.inl ⟨by rfl, ?hyC6⟩) hS ?restC6
            case hyC6 =>
              intro w hSw
              first | (go_simp; done) | (go_simp; with_reducible rfl)
            try simp only [Act.put, List.setIfInBounds_toArray, List.set_cons_zero, List.set_cons_succ]
            refine wpAnyH_take (i := 7) (v := ?vC7) rfl (by kernel_rfl) (by kernel_rfl) (by kernel_rfl) (fun _ _ _ h => h) (Or.inl ⟨by rfl, ?hyC7⟩) hS ?restC7
            case hyC7 =>
              intro w hSw
              have k0 := f0 w hSw; have k1 := f1 w hSw; have k2 := lkN w hSw
              first | (go_simp; done) | (go_simp; with_reducible rfl)
            try simp only [Act.put, List.setIfInBounds_toArray, List.set_cons_zero, List.set_cons_succ]
            refine wpAnyH_take (i := 11) (v := ?vC11) rfl (by kernel_rfl) (by kernel_rfl) (by kernel_rfl) (fun _ _ _ h => h) (Or.inl ⟨by rfl, ?hyC11⟩) hS ?restC11
            case hyC11 =>
              intro w hSw
              first | (go_simp; done) | (go_simp; with_reducible rfl)
            try simp only [Act.put, List.setIfInBounds_toArray, List.set_cons_zero, List.set_cons_succ]
            refine wpAnyH_take (i := 12) (v := ?vC12) rfl (by kernel_rfl) (by kernel_rfl) (by kernel_rfl) (fun _ _ _ h => h) (Or.inl ⟨by rfl, ?hyC12⟩) hS ?restC12
            case hyC12 =>
              intro w hSw
              first | (go_simp; done) | (go_simp; with_reducible rfl)
            try simp only [Act.put, List.setIfInBounds_toArray, List.set_cons_zero, List.set_cons_succ]
            refine wpAnyH_take (i := 13) (v := ?vC13) rfl (by kernel_rfl) (by kernel_rfl) (by kernel_rfl) (fun _ _ _ h => h) (Or.inl ⟨by rfl, ?hyC13⟩) hS ?restC13
            case hyC13 =>
              intro w hSw
              have k0 := f0 w hSw; have k1 := f1 w hSw; have k2 := lkN w hSw
              first | (go_simp; done) | (go_simp; with_reducible rfl)
            try simp only [Act.put, List.setIfInBounds_toArray, List.set_cons_zero, List.set_cons_succ]
            refine wpAnyH_take (i := 14) (v := ?vC14) rfl (by kernel_rfl) (by kernel_rfl) (by kernel_rfl) (fun _ _ _ h => h) (Or.inl ⟨by rfl, ?hyC14⟩) hS ?restC14
            case hyC14 =>
              intro w hSw
              have k0 := f0 w hSw; have k1 := f1 w hSw; have k2 := lkN w hSw
              first | (go_simp; done) | (go_simp; with_reducible rfl)
            try simp only [Act.put, List.setIfInBounds_toArray, List.set_cons_zero, List.set_cons_succ]
            refine wpAnyH_take (i := 16) (v := ?vC16) rfl (by kernel_rfl) (by kernel_rfl) (by kernel_rfl) (fun _ _ _ h => h) (Or.inl ⟨by rfl, ?hyC16⟩) hS ?restC16
            case hyC16 =>
              intro w hSw
              first | (go_simp; done) | (go_simp; with_reducible rfl)
            try simp only [Act.put, List.setIfInBounds_toArray, List.set_cons_zero, List.set_cons_succ]
            refine wpAnyH_take (i := 17) (v := ?vC17) rfl (by kernel_rfl) (by kernel_rfl) (by kernel_rfl) (fun _ _ _ h => h) (Or.inl ⟨by rfl, ?hyC17⟩) hS ?restC17
            case hyC17 =>
              intro w hSw
              have k0 := f0 w hSw; have k1 := f1 w hSw; have k2 := lkN w hSw
              first | (go_simp; done) | (go_simp; with_reducible rfl)
            try simp only [Act.put, List.setIfInBounds_toArray, List.set_cons_zero, List.set_cons_succ]
            refine wpAnyH_take (i := 18) (v := ?vC18) rfl (by kernel_rfl) (by kernel_rfl) (by kernel_rfl) (fun _ _ _ h => h) (Or.inl ⟨by rfl, ?hyC18⟩) hS ?restC18
            case hyC18 =>
              intro w hSw
              first | (go_simp; done) | (go_simp; with_reducible rfl)
            try simp only [Act.put, List.setIfInBounds_toArray, List.set_cons_zero, List.set_cons_succ]
            refine wpAnyH_take (i := 19) (v := ?vC19) rfl (by kernel_rfl) (by kernel_rfl) (by kernel_rfl) (fun _ _ _ h => h) (Or.inl ⟨by rfl, ?hyC19⟩) hS ?restC19
            case hyC19 =>
              intro w hSw
              first | (go_simp; done) | (go_simp; with_reducible rfl)
            try simp only [Act.put, List.setIfInBounds_toArray, List.set_cons_zero, List.set_cons_succ]
            refine wpAnyH_ready (rs := [4]) (by kernel_rfl) (by simp) ?_
            refine AllReadyH.cons rfl (fun K hK => ?_) AllReadyH.nil
            go_simp
            go_wp2_with ((go_at_call 84; refine (KD.out _).mono ?_; rintro e w' ⟨rfl, rfl⟩))
            refine hK.out _ _ hS (fun _ => ?_)
            clear hK K
            refine wpAnyH_take (i := 5) (v := ?vC5) rfl (by kernel_rfl) (by kernel_rfl) (by kernel_rfl) (fun _ _ _ h => h) (Or.inl ⟨by rfl, ?hyC5⟩) hS ?restC5
            case hyC5 =>
              intro w hSw
              have kadd := hadd2 w
              first | (go_simp; done) | (go_simp; with_reducible rfl)
            try simp only [Act.put, List.setIfInBounds_toArray, List.set_cons_zero, List.set_cons_succ]
            refine wpAnyH_ready (rs := [8]) (by kernel_rfl) (by simp) ?_
            refine AllReadyH.cons rfl (fun K hK => ?_) AllReadyH.nil
            go_simp
            go_wp2_with ((go_at_call 143; refine (KU.out _).mono ?_; rintro e w' ⟨rfl, rfl⟩))
            refine hK.out _ _ hS (fun _ => ?_)
            clear hK K
            refine wpAnyH_take (i := 9) (v := ?vC9) rfl (by kernel_rfl) (by kernel_rfl) (by kernel_rfl) (fun _ _ _ h => h) (Or.inl ⟨by rfl, ?hyC9⟩) hS ?restC9
            case hyC9 =>
              intro w hSw
              first | (go_simp; done) | (go_simp; with_reducible rfl)
            try simp only [Act.put, List.setIfInBounds_toArray, List.set_cons_zero, List.set_cons_succ]
            refine wpAnyH_ready (rs := [10]) (by kernel_rfl) (by simp) ?_
            refine AllReadyH.cons rfl (fun K hK => ?_) AllReadyH.nil
            go_simp
            go_wp2_with ((go_at_call 86; refine (KW0.out _).mono ?_; rintro e w' ⟨rfl, rfl⟩))
            refine hK.out _ _ hS (fun _ => ?_)
            clear hK K
            refine wpAnyH_ready (rs := [15]) (by kernel_rfl) (by simp) ?_
            refine AllReadyH.cons rfl (fun K hK => ?_) AllReadyH.nil
            go_simp
            go_wp2_with ((go_at_call 86; refine (KW1.out _).mono ?_; rintro e w' ⟨rfl, rfl⟩))
            refine hK.out _ _ hS (fun _ => ?_)
            clear hK K
            refine wpAnyH_take (i := 20) (v := ?vC20) rfl (by kernel_rfl) (by kernel_rfl) (by kernel_rfl) (fun _ _ _ h => h) (Or.inl ⟨by rfl, ?hyC20⟩) hS ?restC20
            case hyC20 =>
              intro w hSw
              first | (go_simp; done) | (go_simp; with_reducible rfl)
            try simp only [Act.put, List.setIfInBounds_toArray, List.set_cons_zero, List.set_cons_succ]
            refine wpAnyH_take (i := 21) (v := ?vC21) rfl (by kernel_rfl) (by kernel_rfl) (by kernel_rfl) (fun _ _ _ h => h) (Or.inl ⟨by kernel_rfl, ?hyC21⟩) hS ?restC21
            case hyC21 =>
              intro w hSw
              first | (go_simp; done) | (go_simp; with_reducible rfl)
            try simp only [Act.put, List.setIfInBounds_toArray, List.set_cons_zero, List.set_cons_succ]
            refine wpAnyH_take (i := 22) (v := ?vC22) rfl (by kernel_rfl) (by kernel_rfl) (by kernel_rfl) (fun _ _ _ h => h) (Or.inl ⟨by kernel_rfl, ?hyC22⟩) hS ?restC22
            case hyC22 =>
              intro w hSw
              have k0 := f0 w hSw; have k1 := f1 w hSw; have k2 := lkN w hSw
              first | (go_simp; done) | (go_simp; with_reducible rfl)
            try simp only [Act.put, List.setIfInBounds_toArray, List.set_cons_zero, List.set_cons_succ]
            refine wpAnyH_take (i := 23) (v := ?vC23) rfl (by kernel_rfl) (by kernel_rfl) (by kernel_rfl) (fun _ _ _ h => h) (Or.inl ⟨by kernel_rfl, ?hyC23⟩) hS ?restC23
            case hyC23 =>
              intro w hSw
              first | (go_simp; done) | (go_simp; with_reducible rfl)
            try simp only [Act.put, List.setIfInBounds_toArray, List.set_cons_zero, List.set_cons_succ]
            refine wpAnyH_take (i := 24) (v := ?vC24) rfl (by kernel_rfl) (by kernel_rfl) (by kernel_rfl) (fun _ _ _ h => h) (Or.inl ⟨by kernel_rfl, ?hyC24⟩) hS ?restC24
            case hyC24 =>
              intro w hSw
              first | (go_simp; done) | (go_simp; with_reducible rfl)
            try simp only [Act.put, List.setIfInBounds_toArray, List.set_cons_zero, List.set_cons_succ]
            refine wpAnyH_take (i := 25) (v := ?vC25) rfl (by kernel_rfl) (by kernel_rfl) (by kernel_rfl) (fun _ _ _ h => h) (Or.inl ⟨by rfl, ?hyC25⟩) hS ?restC25
            case hyC25 =>
              intro w hSw
              first | (go_simp; done) | (go_simp; with_reducible rfl)
            try simp only [Act.put, List.setIfInBounds_toArray, List.set_cons_zero, List.set_cons_succ]
            refine wpAnyH_ready (rs := [26]) (by kernel_rfl) (by simp) ?_
            refine AllReadyH.cons rfl (fun K hK => ?_) AllReadyH.nil
            go_simp
            go_wp2_with ((go_at_call 86; refine (KW2.out _).mono ?_; rintro e w' ⟨rfl, rfl⟩))
            refine hK.out _ _ hS (fun _ => ?_)
            clear hK K
            refine wpAnyH_ready (rs := [27]) (by kernel_rfl) (by simp) ?_
            refine AllReadyH.cons rfl (fun K hK => ?_) AllReadyH.nil
            go_simp
            have hNv : v.ownBlock ≠ some w6.drew.heap.size := fun h => Nat.lt_irrefl _ (hO.low h).2
            have hO := hO.alloc (.cells #[.int .i64 x0, .int .i64 x1, .int .i64 x2] errT)
            have hS := hS.on (bel_alloc _ (.cells #[.int .i64 x0, .int .i64 x1, .int .i64 x2] errT))
            refine hK.out _ _ hS (fun _ => ?_)
            clear hK K
            refine wpAnyH_ready (rs := [28]) (by kernel_rfl) (by simp) ?_
            refine AllReadyH.cons rfl (fun K hK => ?_) AllReadyH.nil
            go_simp
            go_wp2_with ((go_at_call 85; refine (fadd_any _ v _ _ w6.drew.heap.size 3 3 [x0, x1, x2] _ hO rfl (by omega) (errs_new w6.drew _ rfl) hNv HFL.out).mono ?_; rintro e w8 ⟨v8, rfl, hO8, hC8⟩; have hS := hS.trans hC8.but (fun _ _ h => h)))
            refine hK.out _ _ hS (fun _ => ?_)
            clear hK K
            refine wpAnyH_take (i := 29) (v := ?vC29) rfl (by kernel_rfl) (by kernel_rfl) (by kernel_rfl) (fun _ _ _ h => h) (Or.inl ⟨by rfl, ?hyC29⟩) hS ?restC29
            case hyC29 =>
              intro w hSw
              first | (go_simp; done) | (go_simp; with_reducible rfl)
            try simp only [Act.put, List.setIfInBounds_toArray, List.set_cons_zero, List.set_cons_succ]
            refine wpAnyH_done (by kernel_rfl) ?_ _
            have y0 := f0 _ hS
            have y1 := f1 _ hS
            have hm9 := SX.map MM1.out hv1 hS
            go_wp2_with (at_mapUpdate; refine wpList_put (en := Value.string) rfl _ _ _ 127 rfl strK str_inj Tryz.underlying127 rfl hm9 (by have := HN.out; have := HLN.out; unfold maxLen; omega) x.code _ rfl HK.out ?_; intro w9 hm9 hg9; refine Hid.out ?_)
            have u1 := grown_cell hg9 y1 (by simp; omega)
            have hb8 : But w w8 (fun k => k = CB) := HB6.out.low hS (fun k hk hv => by have := (HO6.out.low hv).1; omega)
            have hb9 : But w w9 (fun k => k = CB) := hb8.grown hg9 (fun k hk _ => by cases hk; rfl)
            have HX : Hid (FOwn w.heap.size w9 v8 (clsF at_ S b (k + 1)) ∧ MapS w9 CB (n + (k + 1)) (gS (S ++ codesC (b.l.take (k + 1)))) ∧ But w w9 (fun k => k = CB)) := Lib.hid ⟨by
                rw [HF.out, HEr.out]
                exact hO8.grown hg9 (.inl (fun e => by have := (hO8.low e.symm).1; omega)), by rw [hT.out, ← List.append_assoc, ← HKP.out]; exact hm9, hb9⟩
            clear hm9 hg9 hb9 hb8 hO8 hC8 hS hO y0 y1
            refine Lib.hid ?_
            have hk30 : k < 30 := by have := HLN.out; omega
            go_wp2
            go_roundw
            case rel => exact ⟨_, k + 1, rfl, by omega, by go_num, by first | (rw [hLP.out]; done) | (rw [hLP.out]; congr 1; split <;> omega), HX⟩
            case measure => simp [intOf]; omega
      · have HE : Hid (k = b.l.length) := Lib.hid (by omega)
        have HR : Hid (FOwn w.heap.size wr v (clsF at_ S b b.l.length) ∧ MapS wr CB (n + b.l.length) (gS (S ++ codesC b.l)) ∧ But w wr (fun k => k = CB)) := Lib.hid (by have h := HJ.out; rw [HE.out, List.take_length] at h; exact h)
        clear HJ
        go_wp2
        go_ret
        exact ⟨_, rfl, HR.out⟩

end Go.Proofs.YtjmahmeionakaaaGreatDoor
