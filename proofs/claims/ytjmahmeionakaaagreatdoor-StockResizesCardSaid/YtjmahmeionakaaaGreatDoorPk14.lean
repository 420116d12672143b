/- Words and walks that the laws below ask: StkE, StkF. -/
import Derived.BigQuiet
import Derived.Test.YtjmahmeionakaaaGreatDoorPk12
/- Left, Free, Equip; the closures of Sell and Cancel. -/
namespace Go.Proofs.YtjmahmeionakaaaGreatDoor
open Go.RowKit Go.Shelf Go.Maps Go.MapKept
set_option linter.unusedSimpArgs false
set_option linter.unusedVariables false

/-- the cells of a cabin of the leg's configuration -/
theorem cab_cells {w : World} {f : Cf} (h : CfAt w f) {k : Nat} {b : Cb} (hb : f.l[k]? = some b) : ∃ g o, f.A = some ⟨g, o, none⟩ ∧ w.cell? ⟨g, o + k * 4 + 0, none⟩ = some (.string b.name) ∧ w.cell? ⟨g, o + k * 4 + 1, none⟩ = some (.int .i64 b.seats) ∧ w.cell? ⟨g, o + k * 4 + 2, none⟩ = some (.int .i64 b.over) ∧ w.cell? ⟨g, o + k * 4 + 3, none⟩ = some (.slice b.A b.l.length b.c) := by
  obtain ⟨g, o, e, _, hc⟩ := row_get h.1 hb
  exact ⟨g, o, e, hc 0 _ rfl, hc 1 _ rfl, hc 2 _ rfl, hc 3 _ rfl⟩
theorem OkL.lim {K : Int} {q : Lg} (h : OkL K q) {b : Cb} (hb : b ∈ q.f.l) : LimP b := (lim_right h.right hb (h.small.2 b hb)).1
theorem sw_cell {w5 : World} {a : Addr} {x : Value} (hc : w5.cell? a = some x) : ∀ W, SW w5 W → W.cell? a = some x := fun W h => bel_cell h hc
def leftV (b : Cb) (s : List Int) (k : Nat) : Int := if rgtB b s = true then opF b s k else 0
theorem PlcR.lv {q : Lg} {c : ByteArray} {b : Cb} {s : List Int} {x : Int} (h : PlcR q c b s x) (hc : q.has c = true) : q.left c = if q.cl = true then 0 else leftV b s (q.ck c) := by
  unfold Lg.left leftV
  rw [h.cab, h.row, hc]
  cases q.cl <;> simp
set_option maxRecDepth 100000 in
set_option maxHeartbeats 8000000 in
theorem left_yes (R : Nat → Prop) (o : Own') (B n : Nat) (cs : List Cf) (g : Stk) (K : Int) (i : Lid) (q : Lg) (c : ByteArray) (w : World) (hS : StkAt w R o B n cs g) (hG : OkG K cs g) (hi : OkD i) (hq : g i = some q) (hc : q.has c = true) (hcl : q.cl = false) :
    Calls Tryz.prog 21 #[.pointer (some ⟨B, 0, none⟩), aggD i, .string c] w fun e w' => e = .returned (.int .i64 (q.left c)) ∧ Below w.heap.size w w' := by
  have hbA := bel_alloc w (.cells #[.string i.car, .int .i64 i.num, .int .i64 i.day, .string i.frm] lidT)
  have hS' := hS.more hbA
  obtain ⟨l0, l1, l2, l3⟩ := lid_new w i
  have HS := Lib.hid hS'
  have K1 := Lib.hid (fun W h => lplace_yes R o B n cs g K i q c W h hG hi hq hc)
  obtain ⟨hL, hf⟩ := hG.leg i q hq
  obtain ⟨b, s, x, hP⟩ := hL.plc hc
  have hlim := hL.lim (List.mem_of_getElem? hP.hb)
  have hsl : s.length ≤ 30 := by rw [hP.len]; exact hL.small.2 b (List.mem_of_getElem? hP.hb)
  have HR : Hid (q.left c = leftV b s (q.ck c)) := Lib.hid (by rw [hP.lv hc, hcl]; rfl)
  have KN : Hid (∀ W a, LegAt W o i a q → ∃ sb sc r rc, W.cell? ⟨a, 2, none⟩ = some (.slice (some ⟨sb, 0, none⟩) q.so.length sc) ∧ W.cell? ⟨sb, q.ci c, none⟩ = some (.slice (some ⟨r, 0, none⟩) s.length rc) ∧ W.cell? ⟨r, q.ck c, none⟩ = some (.int .i64 x) ∧ o r = .row i (q.ci c) ∧ Row W r s ∧ q.ci c < q.so.length ∧ q.ck c < s.length) := Lib.hid (fun W a h => h.num hP)
  have KC : Hid (∀ W, SW w W → CfAt W q.f ∧ ∃ gg oo, q.f.A = some ⟨gg, oo, none⟩ ∧ W.cell? ⟨gg, oo + q.ci c * 4 + 0, none⟩ = some (.string b.name) ∧ W.cell? ⟨gg, oo + q.ci c * 4 + 1, none⟩ = some (.int .i64 b.seats) ∧ W.cell? ⟨gg, oo + q.ci c * 4 + 2, none⟩ = some (.int .i64 b.over) ∧ W.cell? ⟨gg, oo + q.ci c * 4 + 3, none⟩ = some (.slice b.A b.l.length b.c)) := Lib.hid (fun W h => ⟨(hS.more h).cfAt hf, cab_cells ((hS.more h).cfAt hf) hP.hb⟩)
  have KO : Hid (∀ (W : World) r rc, CfAt W q.f → Row W r s → Calls Tryz.prog 59 #[aggCb b, .slice (some ⟨r, 0, none⟩) s.length rc] W fun e w' => (∃ v, e = .returned v ∧ (if rgtB b s = true then ∃ g' o' c', v = .slice (some ⟨g', o', none⟩) s.length c' ∧ w'.cell? ⟨g', o' + q.ck c, none⟩ = some (.int .i64 (opF b s (q.ck c))) else ∃ A' c', v = .slice A' 0 c')) ∧ SW W w') := Lib.hid (fun W r rc hcf hr => (open_any b (some ⟨r, 0, none⟩) rc s W (hcf.2 b (List.mem_of_getElem? hP.hb)) hlim (by omega) (hr.intR)).mono (by
    rintro e w' ⟨v, rfl, hv, hb⟩
    refine ⟨⟨v, rfl, ?_⟩, hb⟩
    unfold opL at hv
    by_cases hr : rgtB b s = true
    · rw [if_pos hr] at hv ⊢
      obtain ⟨A', c', rfl, hh⟩ := int_slice hv
      obtain ⟨bb, oo, rfl, hc2⟩ := hh (q.ck c) (by rw [hP.len]; exact hP.lt)
      exact ⟨bb, oo, c', rfl, hc2⟩
    · rw [if_neg hr] at hv ⊢
      obtain ⟨A', c', rfl, _⟩ := hv
      exact ⟨A', c', rfl⟩))
  have hil : q.ci c < q.f.l.length := (List.getElem?_eq_some_iff.1 hP.hb).1
  rw [HR.out]
  unfold leftV
  generalize q.ci c = ni at K1 KN KC KO hil ⊢
  generalize q.ck c = nk at K1 KN KC KO ⊢
  clear hS' hq hc hP hlim HR hL
  generalize opF b s nk = ov at *
  generalize q.so.length = sl at KN
  generalize s.length = sn at *
  go_enter Tryz.func21, Tryz.ntmps21
  go_upto_region 1 with fail
  generalize hw5 : w.alloc (.cells #[.string i.car, .int .i64 i.num, .int .i64 i.day, .string i.frm] lidT) = w5 at *
  go_upto_region 2 with (go_at_call 58; refine (K1.out _ HS.out).mono ?_; rintro e w6 ⟨a, rfl, ha, hb6⟩)
  have hb06 := hbA.trans (hb6.mono hbA.size)
  obtain ⟨sb, sc, r, rc, d2, d3, _, _, hrow, d5, d6⟩ := KN.out _ _ ha
  obtain ⟨hcf, gg, oo, hA, k0, k1, k2, k3⟩ := KC.out _ hb06
  have d1 := ha.c1
  have d4 := ha.c3
  rw [hcl] at d4
  rw [hA] at d1
  have i1 : (0 : Int) ≤ (ni : Int) := by omega
  have i2 : (ni : Int) < (sl : Int) := by omega
  have i2' : (ni : Int) < (q.f.l.length : Int) := by omega
  have i3 : (0 : Int) ≤ (nk : Int) := by omega
  have i4 : (nk : Int) < (sn : Int) := by omega
  have i5 : ((sn : Int) == 0) = false := by rw [beq_eq_false_iff_ne]; omega
  have HCF := Lib.hid hcf
  have HRW := Lib.hid hrow
  rw [Nat.add_zero] at k0
  clear ha d5 d6 hcf hrow hil hsl
  go_upto_region 4 with fail
  have f0 := sw_cell d1
  have f1 := sw_cell d2
  have f2 := sw_cell d3
  have f3 := sw_cell k0
  have f4 := sw_cell k1
  have f5 := sw_cell k2
  have f6 := sw_cell k3
  clear d1 d2 d3 d4 k0 k1 k2 k3
  have hS : (SW w6) _ := (Below.refl _ _).drew
  refine wp_region_held_drew (S := SW w6) (by kernel_rfl) hS (fun _ => ?_)
  refine wpAnyH_take (i := 0) (v := ?vA0) rfl (by kernel_rfl) (by kernel_rfl) (by kernel_rfl) (fun _ _ _ h => h) (Or.inl ⟨by rfl, ?hyA0⟩) hS ?restA0
  case hyA0 =>
    intro w hSw
    first | (go_simp; done) | (go_simp; with_reducible rfl)
  try simp only [Act.put, List.setIfInBounds_toArray, List.set_cons_zero, List.set_cons_succ]
  refine wpAnyH_take (i := 1) (v := ?vA1) rfl (by kernel_rfl) (by kernel_rfl) (by kernel_rfl) (fun _ _ _ h => h) (Or.inl ⟨by rfl, ?hyA1⟩) hS ?restA1
  case hyA1 =>
    intro w hSw
    first | (go_simp; done) | (go_simp; with_reducible rfl)
  try simp only [Act.put, List.setIfInBounds_toArray, List.set_cons_zero, List.set_cons_succ]
  refine wpAnyH_take (i := 2) (v := ?vA2) rfl (by kernel_rfl) (by kernel_rfl) (by kernel_rfl) (fun _ _ _ h => h) (Or.inl ⟨by rfl, ?hyA2⟩) hS ?restA2
  case hyA2 =>
    intro w hSw
    first | (go_simp; done) | (go_simp; with_reducible rfl)
  try simp only [Act.put, List.setIfInBounds_toArray, List.set_cons_zero, List.set_cons_succ]
  refine wpAnyH_take (i := 3) (v := ?vA3) rfl (by kernel_rfl) (by kernel_rfl) (by kernel_rfl) (fun _ _ _ h => h) (Or.inl ⟨by rfl, ?hyA3⟩) hS ?restA3
  case hyA3 =>
    intro w hSw
    first | (go_simp; done) | (go_simp; with_reducible rfl)
  try simp only [Act.put, List.setIfInBounds_toArray, List.set_cons_zero, List.set_cons_succ]
  refine wpAnyH_take (i := 4) (v := ?vA4) rfl (by kernel_rfl) (by kernel_rfl) (by kernel_rfl) (fun _ _ _ h => h) (Or.inl ⟨by rfl, ?hyA4⟩) hS ?restA4
  case hyA4 =>
    intro w hSw
    have k0 := f0 w hSw; have k1 := f1 w hSw; have k2 := f2 w hSw; have k3 := f3 w hSw; have k4 := f4 w hSw; have k5 := f5 w hSw; have k6 := f6 w hSw
    first | (go_simp; done) | (go_simp; with_reducible rfl)
  try simp only [Act.put, List.setIfInBounds_toArray, List.set_cons_zero, List.set_cons_succ]
  refine wpAnyH_take (i := 5) (v := ?vA5) rfl (by kernel_rfl) (by kernel_rfl) (by kernel_rfl) (fun _ _ _ h => h) (Or.inl ⟨by rfl, ?hyA5⟩) hS ?restA5
  case hyA5 =>
    intro w hSw
    first | (go_simp; done) | (go_simp; with_reducible rfl)
  try simp only [Act.put, List.setIfInBounds_toArray, List.set_cons_zero, List.set_cons_succ]
  refine wpAnyH_take (i := 6) (v := ?vA6) rfl (by kernel_rfl) (by kernel_rfl) (by kernel_rfl) (fun _ _ _ h => h) (Or.inl ⟨by rfl, ?hyA6⟩) hS ?restA6
  case hyA6 =>
    intro w hSw
    have k0 := f0 w hSw; have k1 := f1 w hSw; have k2 := f2 w hSw; have k3 := f3 w hSw; have k4 := f4 w hSw; have k5 := f5 w hSw; have k6 := f6 w hSw
    first | (go_simp; done) | (go_simp; with_reducible rfl)
  try simp only [Act.put, List.setIfInBounds_toArray, List.set_cons_zero, List.set_cons_succ]
  refine wpAnyH_take (i := 7) (v := ?vA7) rfl (by kernel_rfl) (by kernel_rfl) (by kernel_rfl) (fun _ _ _ h => h) (Or.inl ⟨by rfl, ?hyA7⟩) hS ?restA7
  case hyA7 =>
    intro w hSw
    have k0 := f0 w hSw; have k1 := f1 w hSw; have k2 := f2 w hSw; have k3 := f3 w hSw; have k4 := f4 w hSw; have k5 := f5 w hSw; have k6 := f6 w hSw
    first | (go_simp; done) | (go_simp; with_reducible rfl)
  try simp only [Act.put, List.setIfInBounds_toArray, List.set_cons_zero, List.set_cons_succ]
  refine wpAnyH_take (i := 8) (v := ?vA8) rfl (by kernel_rfl) (by kernel_rfl) (by kernel_rfl) (fun _ _ _ h => h) (Or.inl ⟨by rfl, ?hyA8⟩) hS ?restA8
  case hyA8 =>
    intro w hSw
    first | (go_simp; done) | (go_simp; with_reducible rfl)
  try simp only [Act.put, List.setIfInBounds_toArray, List.set_cons_zero, List.set_cons_succ]
  refine wpAnyH_take (i := 9) (v := ?vA9) rfl (by kernel_rfl) (by kernel_rfl) (by kernel_rfl) (fun _ _ _ h => h) (Or.inl ⟨by rfl, ?hyA9⟩) hS ?restA9
  case hyA9 =>
    intro w hSw
    first | (go_simp; done) | (go_simp; with_reducible rfl)
  try simp only [Act.put, List.setIfInBounds_toArray, List.set_cons_zero, List.set_cons_succ]
  refine wpAnyH_take (i := 10) (v := ?vA10) rfl (by kernel_rfl) (by kernel_rfl) (by kernel_rfl) (fun _ _ _ h => h) (Or.inl ⟨by rfl, ?hyA10⟩) hS ?restA10
  case hyA10 =>
    intro w hSw
    first | (go_simp; done) | (go_simp; with_reducible rfl)
  try simp only [Act.put, List.setIfInBounds_toArray, List.set_cons_zero, List.set_cons_succ]
  refine wpAnyH_take (i := 11) (v := ?vA11) rfl (by kernel_rfl) (by kernel_rfl) (by kernel_rfl) (fun _ _ _ h => h) (Or.inl ⟨by rfl, ?hyA11⟩) hS ?restA11
  case hyA11 =>
    intro w hSw
    have k0 := f0 w hSw; have k1 := f1 w hSw; have k2 := f2 w hSw; have k3 := f3 w hSw; have k4 := f4 w hSw; have k5 := f5 w hSw; have k6 := f6 w hSw
    first | (go_simp; done) | (go_simp; with_reducible rfl)
  try simp only [Act.put, List.setIfInBounds_toArray, List.set_cons_zero, List.set_cons_succ]
  refine wpAnyH_take (i := 12) (v := ?vA12) rfl (by kernel_rfl) (by kernel_rfl) (by kernel_rfl) (fun _ _ _ h => h) (Or.inl ⟨by rfl, ?hyA12⟩) hS ?restA12
  case hyA12 =>
    intro w hSw
    first | (go_simp; done) | (go_simp; with_reducible rfl)
  try simp only [Act.put, List.setIfInBounds_toArray, List.set_cons_zero, List.set_cons_succ]
  refine wpAnyH_take (i := 13) (v := ?vA13) rfl (by kernel_rfl) (by kernel_rfl) (by kernel_rfl) (fun _ _ _ h => h) (Or.inl ⟨by rfl, ?hyA13⟩) hS ?restA13
  case hyA13 =>
    intro w hSw
    have k0 := f0 w hSw; have k1 := f1 w hSw; have k2 := f2 w hSw; have k3 := f3 w hSw; have k4 := f4 w hSw; have k5 := f5 w hSw; have k6 := f6 w hSw
    first | (go_simp; done) | (go_simp; with_reducible rfl)
  try simp only [Act.put, List.setIfInBounds_toArray, List.set_cons_zero, List.set_cons_succ]
  refine wpAnyH_take (i := 14) (v := ?vA14) rfl (by kernel_rfl) (by kernel_rfl) (by kernel_rfl) (fun _ _ _ h => h) (Or.inl ⟨by rfl, ?hyA14⟩) hS ?restA14
  case hyA14 =>
    intro w hSw
    have k0 := f0 w hSw; have k1 := f1 w hSw; have k2 := f2 w hSw; have k3 := f3 w hSw; have k4 := f4 w hSw; have k5 := f5 w hSw; have k6 := f6 w hSw
    first | (go_simp; done) | (go_simp; with_reducible rfl)
  try simp only [Act.put, List.setIfInBounds_toArray, List.set_cons_zero, List.set_cons_succ]
  refine wpAnyH_ready (rs := [15]) (by kernel_rfl) (by simp) ?_
  refine AllReadyH.cons rfl (fun K hK => ?_) AllReadyH.nil
  go_simp
  go_wp2_with (go_at_call 59; refine (KO.out _ _ _ (CfAt.more HCF.out hS) (Row.more HRW.out hS)).mono ?_; rintro e w7 ⟨⟨v, rfl, hv⟩, hb7⟩)
  have hS : SW w6 w7 := Below.trans hS (Below.mono hb7 hS.size)
  refine hK.out _ _ hS (fun _ => ?_)
  clear hK K
  refine wpAnyH_take (i := 16) (v := ?vA16) rfl (by kernel_rfl) (by kernel_rfl) (by kernel_rfl) (fun _ _ _ h => h) (Or.inl ⟨by rfl, ?hyA16⟩) hS ?restA16
  case hyA16 =>
    intro w hSw
    first | (go_simp; done) | (go_simp; with_reducible rfl)
  try simp only [Act.put, List.setIfInBounds_toArray, List.set_cons_zero, List.set_cons_succ]
  refine wpAnyH_done (by kernel_rfl) ?_ _
  by_cases hr : rgtB b s = true
  · rw [if_pos hr] at hv
    obtain ⟨g', o', c', rfl, hx⟩ := hv
    have HRR := Lib.hid hr
    clear hr
    go_wp2
    go_ret
    exact ⟨by first | rfl | (rw [if_pos HRR.out]; rfl), hb06.trans (Below.mono hS hb06.size)⟩
  · rw [if_neg hr] at hv
    obtain ⟨A', c', rfl⟩ := hv
    have HRR := Lib.hid hr
    clear hr
    go_wp2
    go_ret
    exact ⟨by first | rfl | (rw [if_neg HRR.out]; rfl), hb06.trans (Below.mono hS hb06.size)⟩
set_option maxRecDepth 100000 in
set_option maxHeartbeats 2000000 in
theorem left_no (R : Nat → Prop) (o : Own') (B n : Nat) (cs : List Cf) (g : Stk) (K : Int) (i : Lid) (c : ByteArray) (w : World) (hS : StkAt w R o B n cs g) (hG : OkG K cs g) (hi : OkD i) (hc : ∀ q, g i = some q → q.has c = false ∨ q.cl = true) :
    Calls Tryz.prog 21 #[.pointer (some ⟨B, 0, none⟩), aggD i, .string c] w fun e w' => e = .returned (.int .i64 0) ∧ Below w.heap.size w w' := by
  have hbA := bel_alloc w (.cells #[.string i.car, .int .i64 i.num, .int .i64 i.day, .string i.frm] lidT)
  have hS' := hS.more hbA
  obtain ⟨l0, l1, l2, l3⟩ := lid_new w i
  have HS := Lib.hid hS'
  by_cases hh : ∃ q, g i = some q ∧ q.has c = true
  · obtain ⟨q, hq, hc1⟩ := hh
    have hcl : q.cl = true := by
      rcases hc q hq with e | e
      · rw [hc1] at e; cases e
      · exact e
    have K1 := Lib.hid (fun W h => lplace_yes R o B n cs g K i q c W h hG hi hq hc1)
    generalize (q.ci c : Int) = vi at K1
    generalize (q.ck c : Int) = vk at K1
    clear hS hS' hq hc hc1
    go_enter Tryz.func21, Tryz.ntmps21
    go_upto_region 1 with fail
    generalize w.alloc (.cells #[.string i.car, .int .i64 i.num, .int .i64 i.day, .string i.frm] lidT) = w5 at *
    go_upto_region 2 with (go_at_call 58; refine (K1.out _ HS.out).mono ?_; rintro e w6 ⟨a, rfl, ha, hb6⟩)
    have d4 := ha.c3
    rw [hcl] at d4
    clear ha
    go_wp2
    go_ret
    exact ⟨rfl, hbA.trans (hb6.mono hbA.size)⟩
  · have K1 := Lib.hid (fun W h => lplace_no R o B n cs g K i c W h hG hi (fun q hq => by
      cases e : q.has c with
      | false => rfl
      | true => exact absurd ⟨q, hq, e⟩ hh))
    clear hS hS' hc hh
    go_enter Tryz.func21, Tryz.ntmps21
    go_upto_region 1 with fail
    generalize w.alloc (.cells #[.string i.car, .int .i64 i.num, .int .i64 i.day, .string i.frm] lidT) = w5 at *
    go_wp2_with (go_at_call 58; refine (K1.out _ HS.out).mono ?_; rintro e w6 ⟨rfl, hb6⟩)
    go_ret
    exact ⟨rfl, hbA.trans (hb6.mono hbA.size)⟩
/-- the availability of a class on a leg, if there is such a leg -/
def leftG (g : Stk) (i : Lid) (c : ByteArray) : Int := match g i with
  | some q => q.left c
  | none => 0
theorem lleft_any (R : Nat → Prop) (o : Own') (B n : Nat) (cs : List Cf) (g : Stk) (K : Int) (i : Lid) (c : ByteArray) (w : World) (hS : StkAt w R o B n cs g) (hG : OkG K cs g) (hi : OkD i) :
    Calls Tryz.prog 21 #[.pointer (some ⟨B, 0, none⟩), aggD i, .string c] w fun e w' => e = .returned (.int .i64 (leftG g i c)) ∧ Below w.heap.size w w' := by
  unfold leftG
  cases hq : g i with
  | none => exact left_no R o B n cs g K i c w hS hG hi (fun q h => by rw [hq] at h; cases h)
  | some q =>
    by_cases h : q.has c = true ∧ q.cl = false
    · exact left_yes R o B n cs g K i q c w hS hG hi hq h.1 h.2
    · have h' : q.has c = false ∨ q.cl = true := by
        cases h1 : q.has c
        · exact .inl rfl
        · cases h2 : q.cl
          · exact absurd ⟨h1, h2⟩ h
          · exact .inr rfl
      have e : q.left c = 0 := by unfold Lg.left; rw [if_pos h'.symm]
      show Calls _ _ _ _ fun e w' => e = .returned (.int .i64 (q.left c)) ∧ _
      rw [e]
      exact left_no R o B n cs g K i c w hS hG hi (fun q' h => by rw [hq] at h; cases h; exact h')
/-! ### the closures -/
theorem eg_check1 : ∀ args w, (callFunc 107 args).run Tryz.prog w = .ok (.enter 107 args) w := enters_of Tryz.func107 (by kernel_rfl) rfl
theorem eg_sell1 : ∀ args w, (callFunc 62 args).run Tryz.prog w = .ok (.enter 62 args) w := enters_of Tryz.func62 (by kernel_rfl) rfl
theorem eg_sell2 : ∀ args w, (callFunc 63 args).run Tryz.prog w = .ok (.enter 63 args) w := enters_of Tryz.func63 (by kernel_rfl) rfl
theorem eg_sell3 : ∀ args w, (callFunc 65 args).run Tryz.prog w = .ok (.enter 65 args) w := enters_of Tryz.func65 (by kernel_rfl) rfl
theorem eg_canc1 : ∀ args w, (callFunc 77 args).run Tryz.prog w = .ok (.enter 77 args) w := enters_of Tryz.func77 (by kernel_rfl) rfl
theorem eg_canc2 : ∀ args w, (callFunc 78 args).run Tryz.prog w = .ok (.enter 78 args) w := enters_of Tryz.func78 (by kernel_rfl) rfl
set_option maxRecDepth 100000 in
set_option maxHeartbeats 2000000 in
theorem check1_any (R : Nat → Prop) (o : Own') (B n Z : Nat) (cs : List Cf) (g : Stk) (i : Lid) (w : World) (hS : StkAt w R o B n cs g) (hi : OkD i) (hz : w.cell? ⟨Z, 0, none⟩ = some (.pointer (some ⟨B, 0, none⟩))) :
    Calls Tryz.prog 107 #[aggD i, .pointer (some ⟨Z, 0, none⟩)] w fun e w' => e = .returned (.bool (g i).isNone) ∧ Below w.heap.size w w' := by
  have hbA := bel_alloc w (.cells #[.string i.car, .int .i64 i.num, .int .i64 i.day, .string i.frm] lidT)
  have hS' := hS.more hbA
  have hz' := bel_cell hbA hz
  obtain ⟨l0, l1, l2, l3⟩ := lid_new w i
  have HS := Lib.hid hS'
  have K1 : Hid (∀ W, StkAt W R o B n cs g → Calls Tryz.prog 56 #[.pointer (some ⟨B, 0, none⟩), aggD i] W fun e w' => (∃ p : Option Nat, e = .returned (lkV p) ∧ (g i).isNone = p.isNone) ∧ Below W.heap.size W w') := Lib.hid (fun W h => (lfind_any R o B n cs g i W h hi).mono (by
    rintro e w' ⟨⟨p, rfl, hp⟩, hb⟩
    refine ⟨⟨p, rfl, ?_⟩, hb⟩
    revert hp
    cases g i with
    | none => rintro rfl; rfl
    | some q => rintro ⟨a, rfl, _⟩; rfl))
  generalize (g i).isNone = T at *
  clear hS hS' hz
  go_enter Tryz.func107, Tryz.ntmps107
  go_upto_region 1 with fail
  generalize w.alloc (.cells #[.string i.car, .int .i64 i.num, .int .i64 i.day, .string i.frm] lidT) = w5 at *
  go_wp2_with (go_at_call 56; refine (K1.out _ HS.out).mono ?_; rintro e w6 ⟨⟨p, rfl, rfl⟩, hb6⟩; unfold lkV; cases p <;> dsimp only [Option.map])
  · go_ret
    exact ⟨rfl, hbA.trans (hb6.mono hbA.size)⟩
  · go_ret
    exact ⟨rfl, hbA.trans (hb6.mono hbA.size)⟩
set_option maxRecDepth 100000 in
set_option maxHeartbeats 2000000 in
theorem sell1_any (R : Nat → Prop) (o : Own') (B n Z : Nat) (cs : List Cf) (g : Stk) (i : Lid) (w : World) (hS : StkAt w R o B n cs g) (hi : OkD i) (hz : w.cell? ⟨Z, 0, none⟩ = some (.pointer (some ⟨B, 0, none⟩))) (hn : (g i).isNone = false) :
    Calls Tryz.prog 62 #[aggD i, .pointer (some ⟨Z, 0, none⟩)] w fun e w' => e = .returned (.bool (onL g (fun q => q.cl) i)) ∧ Below w.heap.size w w' := by
  have hbA := bel_alloc w (.cells #[.string i.car, .int .i64 i.num, .int .i64 i.day, .string i.frm] lidT)
  have hS' := hS.more hbA
  have hz' := bel_cell hbA hz
  obtain ⟨l0, l1, l2, l3⟩ := lid_new w i
  obtain ⟨mc, ml, nc, c0, c1, _, _, _, _, hM⟩ := hS'.box
  obtain ⟨p, hrun, hp⟩ := hM.look hi
  obtain ⟨q, hq⟩ : ∃ q, g i = some q := by cases h : g i with
    | none => rw [h] at hn; cases hn
    | some q => exact ⟨q, rfl⟩
  rw [hq] at hp
  obtain ⟨a, rfl, ha⟩ := hp
  have hcl : onL g (fun q => q.cl) i = q.cl := by unfold onL; rw [hq]
  have d3 := ha.c3
  rw [hcl]
  unfold lkV at hrun
  dsimp only [Option.map] at hrun
  have HRUN := Lib.hid hrun
  clear hS hS' hz hn hM hq ha hcl hrun
  go_enter Tryz.func62, Tryz.ntmps62
  go_upto_region 1 with fail
  generalize w.alloc (.cells #[.string i.car, .int .i64 i.num, .int .i64 i.day, .string i.frm] lidT) = w5 at *
  have q0 := SW.cell l0
  have q1 := SW.cell l1
  have q2 := SW.cell l2
  have q3 := SW.cell l3
  have q4 := SW.cell c1
  have q5 := SW.cell d3
  have q6 := SW.cell hz'
  have hrun' : ∀ x : Wd (SW w5), (Instr.lookup lgmT (.map (some ml)) (aggD i) false).run Tryz.prog x.w = .ok (.pointer (some ⟨a, 0, none⟩)) x.w := fun x => HRUN.out x.w x.ok
  clear l0 l1 l2 l3 c0 c1 d3 hz'
  have hNe : Nonempty (Wd (SW w5)) := ⟨⟨_, SW.drew _⟩⟩
  refine quietS (S := SW w5) (by kernel_rfl) (by kernel_rfl) (SW.drew _) ?_
  repeat (first | go_big_quiet_skip | (go_big_quiet_want; go_big_quiet_op; first | go_big_quiet_on | go_big_quiet_call ((fail))))
  refine wpQuiet_nil ?_
  rintro W ⟨⟨_, hW⟩, rfl⟩
  go_wp2
  go_ret
  exact ⟨rfl, hbA.trans (Below.mono hW hbA.size)⟩
set_option maxRecDepth 100000 in
set_option maxHeartbeats 2000000 in
theorem sell2_any (R : Nat → Prop) (o : Own') (B n Z Y : Nat) (cs : List Cf) (g : Stk) (K : Int) (i : Lid) (c : ByteArray) (w : World) (hS : StkAt w R o B n cs g) (hG : OkG K cs g) (hi : OkD i) (hz : w.cell? ⟨Z, 0, none⟩ = some (.pointer (some ⟨B, 0, none⟩))) (hy : w.cell? ⟨Y, 0, none⟩ = some (.string c)) :
    Calls Tryz.prog 63 #[aggD i, .pointer (some ⟨Z, 0, none⟩), .pointer (some ⟨Y, 0, none⟩)] w fun e w' => e = .returned (.bool (!(onL g (fun q => q.has c) i))) ∧ Below w.heap.size w w' := by
  have hbA := bel_alloc w (.cells #[.string i.car, .int .i64 i.num, .int .i64 i.day, .string i.frm] lidT)
  have hS' := hS.more hbA
  have hz' := bel_cell hbA hz
  have hy' := bel_cell hbA hy
  obtain ⟨l0, l1, l2, l3⟩ := lid_new w i
  have HS := Lib.hid hS'
  have K1 := Lib.hid (fun W h => lhas_any R o B n cs g K i c W h hG hi)
  generalize onL g (fun q => q.has c) i = T at *
  clear hS hS' hz hy
  go_enter Tryz.func63, Tryz.ntmps63
  go_upto_region 1 with fail
  generalize w.alloc (.cells #[.string i.car, .int .i64 i.num, .int .i64 i.day, .string i.frm] lidT) = w5 at *
  go_wp2_with (go_at_call 64; refine (K1.out _ HS.out).mono ?_; rintro e w6 ⟨rfl, hb6⟩)
  go_ret
  exact ⟨rfl, hbA.trans (hb6.mono hbA.size)⟩
set_option maxRecDepth 100000 in
set_option maxHeartbeats 2000000 in
theorem canc1_any (R : Nat → Prop) (o : Own') (B n Z Y : Nat) (cs : List Cf) (g : Stk) (K : Int) (i : Lid) (c : ByteArray) (w : World) (hS : StkAt w R o B n cs g) (hG : OkG K cs g) (hi : OkD i) (hz : w.cell? ⟨Z, 0, none⟩ = some (.pointer (some ⟨B, 0, none⟩))) (hy : w.cell? ⟨Y, 0, none⟩ = some (.string c)) :
    Calls Tryz.prog 77 #[aggD i, .pointer (some ⟨Z, 0, none⟩), .pointer (some ⟨Y, 0, none⟩)] w fun e w' => e = .returned (.bool (!(onL g (fun q => q.has c) i))) ∧ Below w.heap.size w w' := by
  have hbA := bel_alloc w (.cells #[.string i.car, .int .i64 i.num, .int .i64 i.day, .string i.frm] lidT)
  have hS' := hS.more hbA
  have hz' := bel_cell hbA hz
  have hy' := bel_cell hbA hy
  obtain ⟨l0, l1, l2, l3⟩ := lid_new w i
  have HS := Lib.hid hS'
  have K1 := Lib.hid (fun W h => lhas_any R o B n cs g K i c W h hG hi)
  generalize onL g (fun q => q.has c) i = T at *
  clear hS hS' hz hy
  go_enter Tryz.func77, Tryz.ntmps77
  go_upto_region 1 with fail
  generalize w.alloc (.cells #[.string i.car, .int .i64 i.num, .int .i64 i.day, .string i.frm] lidT) = w5 at *
  go_wp2_with (go_at_call 64; refine (K1.out _ HS.out).mono ?_; rintro e w6 ⟨rfl, hb6⟩)
  go_ret
  exact ⟨rfl, hbA.trans (hb6.mono hbA.size)⟩
set_option maxRecDepth 100000 in
set_option maxHeartbeats 4000000 in
theorem sell3_any (R : Nat → Prop) (o : Own') (B n Z Y X : Nat) (cs : List Cf) (g : Stk) (K : Int) (i : Lid) (c : ByteArray) (m : Int) (w : World) (hS : StkAt w R o B n cs g) (hG : OkG K cs g) (hi : OkD i) (hz : w.cell? ⟨Z, 0, none⟩ = some (.pointer (some ⟨B, 0, none⟩))) (hy : w.cell? ⟨Y, 0, none⟩ = some (.string c)) (hx : w.cell? ⟨X, 0, none⟩ = some (.int .i64 m)) :
    Calls Tryz.prog 65 #[aggD i, .pointer (some ⟨Z, 0, none⟩), .pointer (some ⟨Y, 0, none⟩), .pointer (some ⟨X, 0, none⟩)] w fun e w' => e = .returned (.bool (decide (leftG g i c < m))) ∧ Below w.heap.size w w' := by
  have hbA := bel_alloc w (.cells #[.string i.car, .int .i64 i.num, .int .i64 i.day, .string i.frm] lidT)
  have hS' := hS.more hbA
  have hz' := bel_cell hbA hz
  have hy' := bel_cell hbA hy
  have hx' := bel_cell hbA hx
  obtain ⟨l0, l1, l2, l3⟩ := lid_new w i
  have HS := Lib.hid hS'
  have K1 := Lib.hid (fun W h => lleft_any R o B n cs g K i c W h hG hi)
  generalize leftG g i c = T at *
  clear hS hS' hz hy hx
  go_enter Tryz.func65, Tryz.ntmps65
  go_upto_region 1 with fail
  generalize w.alloc (.cells #[.string i.car, .int .i64 i.num, .int .i64 i.day, .string i.frm] lidT) = w5 at *
  have q0 := SW.cell l0
  have q1 := SW.cell l1
  have q2 := SW.cell l2
  have q3 := SW.cell l3
  have q4 := SW.cell hz'
  have q5 := SW.cell hy'
  have q6 := SW.cell hx'
  have KK : Hid (∀ W, SW w5 W → Calls Tryz.prog 21 #[.pointer (some ⟨B, 0, none⟩), aggD i, .string c] W fun e w' => e = .returned (.int .i64 T) ∧ SW w5 w') := Lib.hid (fun W h => (K1.out W (HS.out.more h)).mono (by rintro e w' ⟨rfl, hb⟩; exact ⟨rfl, Below.trans h (Below.mono hb h.size)⟩))
  clear l0 l1 l2 l3 hz' hy' hx' K1
  have hNe : Nonempty (Wd (SW w5)) := ⟨⟨_, SW.drew _⟩⟩
  refine quietS (S := SW w5) (by kernel_rfl) (by kernel_rfl) (SW.drew _) ?_
  repeat (first | go_big_quiet_skip | (go_big_quiet_want; go_big_quiet_op; first | go_big_quiet_on | go_big_quiet_call ((go_at_call 21; exact quiet_S (KK.out _ (Wd.ok _))))))
  refine wpQuiet_nil ?_
  rintro W ⟨⟨_, hW⟩, rfl⟩
  go_wp2
  go_ret
  exact ⟨rfl, hbA.trans (hW.mono hbA.size)⟩
set_option maxRecDepth 100000 in
set_option maxHeartbeats 4000000 in
theorem canc2_any (R : Nat → Prop) (o : Own') (B n Z Y X : Nat) (cs : List Cf) (g : Stk) (K : Int) (i : Lid) (c : ByteArray) (m : Int) (w : World) (hS : StkAt w R o B n cs g) (hG : OkG K cs g) (hi : OkD i) (hz : w.cell? ⟨Z, 0, none⟩ = some (.pointer (some ⟨B, 0, none⟩))) (hy : w.cell? ⟨Y, 0, none⟩ = some (.string c)) (hx : w.cell? ⟨X, 0, none⟩ = some (.int .i64 m)) (q : Lg) (hq : g i = some q) (hc : q.has c = true) :
    Calls Tryz.prog 78 #[aggD i, .pointer (some ⟨Z, 0, none⟩), .pointer (some ⟨Y, 0, none⟩), .pointer (some ⟨X, 0, none⟩)] w fun e w' => e = .returned (.bool (decide (q.sold c < m))) ∧ Below w.heap.size w w' := by
  have hbA := bel_alloc w (.cells #[.string i.car, .int .i64 i.num, .int .i64 i.day, .string i.frm] lidT)
  have hS' := hS.more hbA
  have hz' := bel_cell hbA hz
  have hy' := bel_cell hbA hy
  have hx' := bel_cell hbA hx
  obtain ⟨l0, l1, l2, l3⟩ := lid_new w i
  have HS := Lib.hid hS'
  have K1 := Lib.hid (fun W h => lsold_any R o B n cs g K i q c W h hG hi hq hc)
  generalize q.sold c = T at *
  clear hS hS' hz hy hx
  go_enter Tryz.func78, Tryz.ntmps78
  go_upto_region 1 with fail
  generalize w.alloc (.cells #[.string i.car, .int .i64 i.num, .int .i64 i.day, .string i.frm] lidT) = w5 at *
  have q0 := SW.cell l0
  have q1 := SW.cell l1
  have q2 := SW.cell l2
  have q3 := SW.cell l3
  have q4 := SW.cell hz'
  have q5 := SW.cell hy'
  have q6 := SW.cell hx'
  have KK : Hid (∀ W, SW w5 W → Calls Tryz.prog 79 #[.pointer (some ⟨B, 0, none⟩), aggD i, .string c] W fun e w' => e = .returned (.int .i64 T) ∧ SW w5 w') := Lib.hid (fun W h => (K1.out W (HS.out.more h)).mono (by rintro e w' ⟨rfl, hb⟩; exact ⟨rfl, Below.trans h (Below.mono hb h.size)⟩))
  clear l0 l1 l2 l3 hz' hy' hx' K1
  have hNe : Nonempty (Wd (SW w5)) := ⟨⟨_, SW.drew _⟩⟩
  refine quietS (S := SW w5) (by kernel_rfl) (by kernel_rfl) (SW.drew _) ?_
  repeat (first | go_big_quiet_skip | (go_big_quiet_want; go_big_quiet_op; first | go_big_quiet_on | go_big_quiet_call ((go_at_call 79; exact quiet_S (KK.out _ (Wd.ok _))))))
  refine wpQuiet_nil ?_
  rintro W ⟨⟨_, hW⟩, rfl⟩
  go_wp2
  go_ret
  exact ⟨rfl, hbA.trans (hW.mono hbA.size)⟩
end Go.Proofs.YtjmahmeionakaaaGreatDoor

/- Equip, Free, Excess. -/
namespace Go.Proofs.YtjmahmeionakaaaGreatDoor
open Go.RowKit Go.Shelf Go.Maps Go.MapKept
set_option linter.unusedSimpArgs false
set_option linter.unusedVariables false

set_option maxRecDepth 100000 in
set_option maxHeartbeats 2000000 in
theorem equip_none (R : Nat → Prop) (o : Own') (B n : Nat) (cs : List Cf) (g : Stk) (K : Int) (i : Lid) (w : World) (hS : StkAt w R o B n cs g) (hi : OkD i) (hq : g i = none) :
    Calls Tryz.prog 28 #[.pointer (some ⟨B, 0, none⟩), aggD i] w fun e w' => e = .returned (.tuple #[.string noB, .bool false]) ∧ Below w.heap.size w w' := by
  have hbA := bel_alloc w (.cells #[.string i.car, .int .i64 i.num, .int .i64 i.day, .string i.frm] lidT)
  have hS' := hS.more hbA
  obtain ⟨l0, l1, l2, l3⟩ := lid_new w i
  have HS := Lib.hid hS'
  have K1 : Hid (∀ W, StkAt W R o B n cs g → Calls Tryz.prog 56 #[.pointer (some ⟨B, 0, none⟩), aggD i] W fun e w' => e = .returned (.pointer none) ∧ Below W.heap.size W w') := Lib.hid (fun W h => (lfind_any R o B n cs g i W h hi).mono (by
    rintro e w' ⟨⟨p, rfl, hp⟩, hb⟩
    rw [hq] at hp
    obtain rfl := hp
    exact ⟨rfl, hb⟩))
  clear hS hS' hq
  go_enter Tryz.func28, Tryz.ntmps28
  go_upto_region 1 with fail
  generalize w.alloc (.cells #[.string i.car, .int .i64 i.num, .int .i64 i.day, .string i.frm] lidT) = w5 at *
  go_wp2_with (go_at_call 56; refine (K1.out _ HS.out).mono ?_; rintro e w6 ⟨rfl, hb6⟩)
  refine bodyPost_ret (results_tmp2 rfl _ _ _) rfl ⟨rfl, hbA.trans (hb6.mono hbA.size)⟩
set_option maxRecDepth 100000 in
set_option maxHeartbeats 2000000 in
theorem excess_none (R : Nat → Prop) (o : Own') (B n : Nat) (cs : List Cf) (g : Stk) (K : Int) (i : Lid) (w : World) (hS : StkAt w R o B n cs g) (hi : OkD i) (hq : g i = none) :
    Calls Tryz.prog 17 #[.pointer (some ⟨B, 0, none⟩), aggD i] w fun e w' => e = .returned (.int .i64 0) ∧ Below w.heap.size w w' := by
  have hbA := bel_alloc w (.cells #[.string i.car, .int .i64 i.num, .int .i64 i.day, .string i.frm] lidT)
  have hS' := hS.more hbA
  obtain ⟨l0, l1, l2, l3⟩ := lid_new w i
  have HS := Lib.hid hS'
  have K1 : Hid (∀ W, StkAt W R o B n cs g → Calls Tryz.prog 56 #[.pointer (some ⟨B, 0, none⟩), aggD i] W fun e w' => e = .returned (.pointer none) ∧ Below W.heap.size W w') := Lib.hid (fun W h => (lfind_any R o B n cs g i W h hi).mono (by
    rintro e w' ⟨⟨p, rfl, hp⟩, hb⟩
    rw [hq] at hp
    obtain rfl := hp
    exact ⟨rfl, hb⟩))
  clear hS hS' hq
  go_enter Tryz.func17, Tryz.ntmps17
  go_upto_region 1 with fail
  generalize w.alloc (.cells #[.string i.car, .int .i64 i.num, .int .i64 i.day, .string i.frm] lidT) = w5 at *
  go_wp2_with (go_at_call 56; refine (K1.out _ HS.out).mono ?_; rintro e w6 ⟨rfl, hb6⟩)
  go_ret
  exact ⟨rfl, hbA.trans (hb6.mono hbA.size)⟩
set_option maxRecDepth 100000 in
set_option maxHeartbeats 2000000 in
theorem equip_some (R : Nat → Prop) (o : Own') (B n : Nat) (cs : List Cf) (g : Stk) (K : Int) (i : Lid) (q : Lg) (w : World) (hS : StkAt w R o B n cs g) (hG : OkG K cs g) (hi : OkD i) (hq : g i = some q) :
    Calls Tryz.prog 28 #[.pointer (some ⟨B, 0, none⟩), aggD i] w fun e w' => e = .returned (.tuple #[.string q.f.equip, .bool true]) ∧ Below w.heap.size w w' := by
  have hbA := bel_alloc w (.cells #[.string i.car, .int .i64 i.num, .int .i64 i.day, .string i.frm] lidT)
  have hS' := hS.more hbA
  obtain ⟨l0, l1, l2, l3⟩ := lid_new w i
  have HS := Lib.hid hS'
  obtain ⟨hL, hf⟩ := hG.leg i q hq
  have K1 : Hid (∀ W, StkAt W R o B n cs g → Calls Tryz.prog 56 #[.pointer (some ⟨B, 0, none⟩), aggD i] W fun e w' => ∃ a, e = .returned (.pointer (some ⟨a, 0, none⟩)) ∧ LegAt w' o i a q ∧ CfAt w' q.f ∧ Below W.heap.size W w') := Lib.hid (fun W h => (lfind_any R o B n cs g i W h hi).mono (by
    rintro e w' ⟨⟨p, rfl, hp⟩, hb⟩
    rw [hq] at hp
    obtain ⟨a, rfl, ha⟩ := hp
    exact ⟨a, rfl, ha, (h.more hb).cfAt hf, hb⟩))
  clear hS hS' hq hL
  go_enter Tryz.func28, Tryz.ntmps28
  go_upto_region 1 with fail
  generalize w.alloc (.cells #[.string i.car, .int .i64 i.num, .int .i64 i.day, .string i.frm] lidT) = w5 at *
  go_upto_region 2 with (go_at_call 56; refine (K1.out _ HS.out).mono ?_; rintro e w6 ⟨a, rfl, ha, hcf, hb6⟩)
  have d0 := ha.c0
  clear ha
  go_wp2
  refine bodyPost_ret (results_tmp2 rfl _ _ _) rfl ⟨rfl, hbA.trans (hb6.mono hbA.size)⟩
/-- the rows of a leg in memory -/
theorem LegAt.rows {w : World} {o : Own'} {i : Lid} {a : Nat} {q : Lg} (h : LegAt w o i a q) : ∃ sb sc, w.cell? ⟨a, 2, none⟩ = some (.slice (some ⟨sb, 0, none⟩) q.so.length sc) ∧ sb < w.heap.size ∧ ∀ (k : Nat) (s : List Int), q.so[k]? = some s → ∃ r rc, w.cell? ⟨sb, k, none⟩ = some (.slice (some ⟨r, 0, none⟩) s.length rc) ∧ Row w r s := by
  obtain ⟨v, h2, sb, sc, rfl, h3, h4, h5⟩ := h.c2
  refine ⟨sb, sc, h2, h4, fun k s hk => ?_⟩
  obtain ⟨r, rc, g1, _, g3⟩ := h5 k s hk
  exact ⟨r, rc, g1, g3⟩
theorem take_succ_sum {s : List Int} {k : Nat} {x : Int} (h : s[k]? = some x) : sumI (s.take (k + 1)) = sumI (s.take k) + x := by
  obtain ⟨hk, rfl⟩ := List.getElem?_eq_some_iff.1 h
  rw [List.take_add_one, List.getElem?_eq_getElem hk, sumI_app]
  simp [sumI]
theorem sum_take_le {s : List Int} (h : ∀ x ∈ s, 0 ≤ x) : ∀ k, 0 ≤ sumI (s.take k) ∧ sumI (s.take k) ≤ sumI s := by
  induction s with
  | nil => intro k; simp [sumI]
  | cons y r ih =>
    intro k
    have h1 := h y (by simp)
    have h2 := ih (fun x hx => h x (by simp [hx]))
    cases k with
    | zero => have := h2 0; simp only [List.take_zero, sumI] at *; omega
    | succ k => have := h2 k; simp only [List.take_succ_cons, sumI] at *; omega
theorem tot_each {so : List (List Int)} (h : ∀ s ∈ so, ∀ x ∈ s, 0 ≤ x) : ∀ s ∈ so, 0 ≤ sumI s ∧ sumI s ≤ totP so := by
  have h0 : ∀ s ∈ so, 0 ≤ sumI s := fun s hs => by have := sum_take_le (h s hs) s.length; rw [List.take_length] at this; exact this.1
  unfold totP
  induction so with
  | nil => intro s hs; cases hs
  | cons t r ih =>
    intro s hs
    have h1 := h0 t (by simp)
    have hall : ∀ x ∈ r.map sumI, 0 ≤ x := fun x hx => by obtain ⟨u, hu, rfl⟩ := List.mem_map.1 hx; exact h0 u (by simp [hu])
    have h3 : 0 ≤ sumI (r.map sumI) := by have := sum_take_le hall (r.map sumI).length; rw [List.take_length] at this; exact this.1
    rcases List.mem_cons.1 hs with rfl | hs
    · simp only [List.map_cons, sumI]; omega
    · have := ih (fun s hs => h s (by simp [hs])) (fun s hs => h0 s (by simp [hs])) s hs
      simp only [List.map_cons, sumI]; omega
set_option maxRecDepth 100000 in
set_option maxHeartbeats 8000000 in
theorem free_yes (R : Nat → Prop) (o : Own') (B n : Nat) (cs : List Cf) (g : Stk) (K : Int) (i : Lid) (q : Lg) (c : ByteArray) (w : World) (hS : StkAt w R o B n cs g) (hG : OkG K cs g) (hK : K ≤ 1000000000000) (hi : OkD i) (hq : g i = some q) (hc : q.has c = true) :
    Calls Tryz.prog 38 #[.pointer (some ⟨B, 0, none⟩), aggD i, .string c] w fun e w' => e = .returned (.int .i64 (q.free c)) ∧ Below w.heap.size w w' := by
  have hbA := bel_alloc w (.cells #[.string i.car, .int .i64 i.num, .int .i64 i.day, .string i.frm] lidT)
  have hS' := hS.more hbA
  obtain ⟨l0, l1, l2, l3⟩ := lid_new w i
  have HS := Lib.hid hS'
  have K1 := Lib.hid (fun W h => lplace_yes R o B n cs g K i q c W h hG hi hq hc)
  obtain ⟨hL, hf⟩ := hG.leg i q hq
  obtain ⟨b, s, x, hP⟩ := hL.plc hc
  have hlim := hL.lim (List.mem_of_getElem? hP.hb)
  have hsl : s.length ≤ 30 := by rw [hP.len]; exact hL.small.2 b (List.mem_of_getElem? hP.hb)
  have hsiz := sizB_in hlim.siz
  have hlow := hL.low s (List.mem_of_getElem? hP.hs)
  have htot := (tot_each hL.low s (List.mem_of_getElem? hP.hs)).2
  have hK2 := hL.tot
  have HT : Hid (∀ k, 0 ≤ sumI (s.take k) ∧ sumI (s.take k) ≤ 1000000000000) := Lib.hid (fun k => by have := sum_take_le hlow k; omega)
  have HX : Hid (∀ x ∈ s, 0 ≤ x ∧ x ≤ 1000000000000) := Lib.hid (fun x hx => by
    obtain ⟨j, hj, rfl⟩ := List.getElem_of_mem hx
    have h1 := take_succ_sum (List.getElem?_eq_getElem hj)
    have h2 := sum_take_le hlow (j + 1)
    have h3 := sum_take_le hlow j
    exact ⟨hlow _ hx, by omega⟩)
  have HR : Hid (q.free c = max (b.seats + b.over - sumI s) 0) := Lib.hid (by unfold Lg.free; rw [hP.cab, hP.row, hc]; rfl)
  have KN : Hid (∀ W a, LegAt W o i a q → ∃ sb sc r rc, W.cell? ⟨a, 2, none⟩ = some (.slice (some ⟨sb, 0, none⟩) q.so.length sc) ∧ W.cell? ⟨sb, q.ci c, none⟩ = some (.slice (some ⟨r, 0, none⟩) s.length rc) ∧ W.cell? ⟨r, q.ck c, none⟩ = some (.int .i64 x) ∧ o r = .row i (q.ci c) ∧ Row W r s ∧ q.ci c < q.so.length ∧ q.ck c < s.length) := Lib.hid (fun W a h => h.num hP)
  have KC : Hid (∀ W, SW w W → CfAt W q.f ∧ ∃ gg oo, q.f.A = some ⟨gg, oo, none⟩ ∧ W.cell? ⟨gg, oo + q.ci c * 4 + 0, none⟩ = some (.string b.name) ∧ W.cell? ⟨gg, oo + q.ci c * 4 + 1, none⟩ = some (.int .i64 b.seats) ∧ W.cell? ⟨gg, oo + q.ci c * 4 + 2, none⟩ = some (.int .i64 b.over) ∧ W.cell? ⟨gg, oo + q.ci c * 4 + 3, none⟩ = some (.slice b.A b.l.length b.c)) := Lib.hid (fun W h => ⟨(hS.more h).cfAt hf, cab_cells ((hS.more h).cfAt hf) hP.hb⟩)
  have KA := Lib.hid (fun W => auth_any b W hlim.siz)
  have hil : q.ci c < q.f.l.length := (List.getElem?_eq_some_iff.1 hP.hb).1
  rw [HR.out]
  generalize q.ci c = ni at K1 KN KC hil
  generalize q.ck c = nk at K1 KN
  have HSZ := Lib.hid hsiz
  clear hS' hq hc hP hlim HR hL hlow htot hK2 hsiz hK
  generalize q.so.length = sl at KN
  go_enter Tryz.func38, Tryz.ntmps38
  go_upto_region 1 with fail
  generalize hw5 : w.alloc (.cells #[.string i.car, .int .i64 i.num, .int .i64 i.day, .string i.frm] lidT) = w5 at *
  go_upto_region 2 with (go_at_call 58; refine (K1.out _ HS.out).mono ?_; rintro e w6 ⟨a, rfl, ha, hb6⟩)
  have hb06 := hbA.trans (hb6.mono hbA.size)
  obtain ⟨sb, sc, r, rc, d2, d3, _, _, hrow, d5, d6⟩ := KN.out _ _ ha
  obtain ⟨hcf, gg, oo, hA, k0, k1, k2, k3⟩ := KC.out _ hb06
  have d1 := ha.c1
  rw [hA] at d1
  have i1 : (0 : Int) ≤ (ni : Int) := by omega
  have i2 : (ni : Int) < (sl : Int) := by omega
  have i2' : (ni : Int) < (q.f.l.length : Int) := by omega
  have HRW := Lib.hid hrow
  rw [Nat.add_zero] at k0
  clear ha d5 d6 hcf hrow hil
  go_upto_region 5 with (go_at_call 80; refine (KA.out _).mono ?_; rintro e w7 ⟨rfl, hb7⟩)
  have d2 := bel_cell hb7 d2
  have d3 := bel_cell hb7 d3
  have hb07 := hb06.trans (Below.mono hb7 hb06.size)
  have HRW7 := Lib.hid (HRW.out.more hb7)
  clear k0 k1 k2 k3 d1
  obtain ⟨t, ht⟩ : ∃ t, t = b.seats + b.over := ⟨_, rfl⟩
  have HTT := Lib.hid ht
  rw [← ht]
  clear ht
  go_wp2
  go_loopw [40, 10] (fun vi vn wr => ∃ k : Nat, k ≤ s.length ∧ vi = .int .i64 k ∧ vn = .int .i64 (t - sumI (s.take k)) ∧ wr = w7) (fun vi _ _ => s.length - (intOf vi).toNat)
  case atStart => exact ⟨0, Nat.zero_le _, rfl, by simp [sumI], rfl⟩
  case round =>
    obtain ⟨k, hk, rfl, rfl, rfl⟩ := hrel
    by_cases hlt : k < s.length
    · obtain ⟨y, hy⟩ : ∃ y, s[k]? = some y := ⟨_, List.getElem?_eq_getElem hlt⟩
      have z0 := HRW7.out.at hy
      have j2 : (k : Int) < (s.length : Int) := by omega
      have hy2 := HX.out y (List.mem_of_getElem? hy)
      have hS1 := HT.out k
      have hSZ := HSZ.out
      have hT := HTT.out
      have hw := IntWalk.i64_in (n := t - sumI (s.take k) - y) (by omega)
      have HE : Hid (t - sumI (s.take k) - y = t - sumI (s.take (k + 1))) := Lib.hid (by rw [take_succ_sum hy]; omega)
      clear hy hy2 hS1 hSZ hT
      generalize sumI (s.take k) = a0 at *
      go_wp2
      go_roundw
      case rel => exact ⟨k + 1, by omega, by go_num, by rw [← HE.out], by first | rfl | trivial⟩
      case measure => simp [intOf]; omega
    · obtain rfl : k = s.length := by omega
      rw [List.take_length]
      have HT2 := HTT.out
      go_wp2
      go_ret
      refine ⟨?_, hb07⟩
      rw [← HT2]
      first
        | rfl
        | (congr 2; rw [Int.max_def]; split <;> split <;> omega)
set_option maxRecDepth 100000 in
set_option maxHeartbeats 2000000 in
theorem free_no (R : Nat → Prop) (o : Own') (B n : Nat) (cs : List Cf) (g : Stk) (K : Int) (i : Lid) (c : ByteArray) (w : World) (hS : StkAt w R o B n cs g) (hG : OkG K cs g) (hi : OkD i) (hc : ∀ q, g i = some q → q.has c = false) :
    Calls Tryz.prog 38 #[.pointer (some ⟨B, 0, none⟩), aggD i, .string c] w fun e w' => e = .returned (.int .i64 0) ∧ Below w.heap.size w w' := by
  have hbA := bel_alloc w (.cells #[.string i.car, .int .i64 i.num, .int .i64 i.day, .string i.frm] lidT)
  have hS' := hS.more hbA
  obtain ⟨l0, l1, l2, l3⟩ := lid_new w i
  have HS := Lib.hid hS'
  have K1 := Lib.hid (fun W h => lplace_no R o B n cs g K i c W h hG hi hc)
  clear hS hS' hc
  go_enter Tryz.func38, Tryz.ntmps38
  go_upto_region 1 with fail
  generalize w.alloc (.cells #[.string i.car, .int .i64 i.num, .int .i64 i.day, .string i.frm] lidT) = w5 at *
  go_wp2_with (go_at_call 58; refine (K1.out _ HS.out).mono ?_; rintro e w6 ⟨rfl, hb6⟩)
  go_ret
  exact ⟨rfl, hbA.trans (hb6.mono hbA.size)⟩
def freeG (g : Stk) (i : Lid) (c : ByteArray) : Int := match g i with
  | some q => q.free c
  | none => 0
theorem free_any (R : Nat → Prop) (o : Own') (B n : Nat) (cs : List Cf) (g : Stk) (K : Int) (i : Lid) (c : ByteArray) (w : World) (hS : StkAt w R o B n cs g) (hG : OkG K cs g) (hK : K ≤ 1000000000000) (hi : OkD i) :
    Calls Tryz.prog 38 #[.pointer (some ⟨B, 0, none⟩), aggD i, .string c] w fun e w' => e = .returned (.int .i64 (freeG g i c)) ∧ Below w.heap.size w w' := by
  unfold freeG
  cases hq : g i with
  | none => exact free_no R o B n cs g K i c w hS hG hi (fun q h => by rw [hq] at h; cases h)
  | some q =>
    cases h : q.has c with
    | true => exact free_yes R o B n cs g K i q c w hS hG hK hi hq h
    | false =>
      have e : q.free c = 0 := by unfold Lg.free; rw [if_pos h]
      show Calls _ _ _ _ fun e w' => e = .returned (.int .i64 (q.free c)) ∧ _
      rw [e]
      exact free_no R o B n cs g K i c w hS hG hi (fun q' h' => by rw [hq] at h'; cases h'; exact h)
theorem exsP_succ {l : List Cb} {so : List (List Int)} {k : Nat} {b : Cb} {s : List Int} (hb : l[k]? = some b) (hs : so[k]? = some s) : exsP l so (k + 1) = max (exsP l so k) (exP b s) := by
  rw [exsP, hb, hs]
theorem cb_new (w : World) (b : Cb) : (w.alloc (.cells #[.string b.name, .int .i64 b.seats, .int .i64 b.over, .slice b.A b.l.length b.c] cbT)).cell? ⟨w.heap.size, 0, none⟩ = some (.string b.name) ∧ (w.alloc (.cells #[.string b.name, .int .i64 b.seats, .int .i64 b.over, .slice b.A b.l.length b.c] cbT)).cell? ⟨w.heap.size, 1, none⟩ = some (.int .i64 b.seats) ∧ (w.alloc (.cells #[.string b.name, .int .i64 b.seats, .int .i64 b.over, .slice b.A b.l.length b.c] cbT)).cell? ⟨w.heap.size, 2, none⟩ = some (.int .i64 b.over) ∧ (w.alloc (.cells #[.string b.name, .int .i64 b.seats, .int .i64 b.over, .slice b.A b.l.length b.c] cbT)).cell? ⟨w.heap.size, 3, none⟩ = some (.slice b.A b.l.length b.c) :=
  ⟨(cells_new w _ cbT 0).trans rfl, (cells_new w _ cbT 1).trans rfl, (cells_new w _ cbT 2).trans rfl, (cells_new w _ cbT 3).trans rfl⟩
set_option maxRecDepth 100000 in
set_option maxHeartbeats 8000000 in
theorem excess_some (R : Nat → Prop) (o : Own') (B n : Nat) (cs : List Cf) (g : Stk) (K : Int) (i : Lid) (q : Lg) (w : World) (hS : StkAt w R o B n cs g) (hG : OkG K cs g) (hi : OkD i) (hq : g i = some q) :
    Calls Tryz.prog 17 #[.pointer (some ⟨B, 0, none⟩), aggD i] w fun e w' => e = .returned (.int .i64 q.excess) ∧ Below w.heap.size w w' := by
  have hbA := bel_alloc w (.cells #[.string i.car, .int .i64 i.num, .int .i64 i.day, .string i.frm] lidT)
  have hS' := hS.more hbA
  obtain ⟨l0, l1, l2, l3⟩ := lid_new w i
  have HS := Lib.hid hS'
  obtain ⟨hL, hf⟩ := hG.leg i q hq
  have hL0 := Lib.hid hL
  have K1 : Hid (∀ W, StkAt W R o B n cs g → Calls Tryz.prog 56 #[.pointer (some ⟨B, 0, none⟩), aggD i] W fun e w' => ∃ a, e = .returned (.pointer (some ⟨a, 0, none⟩)) ∧ LegAt w' o i a q ∧ CfAt w' q.f ∧ Below W.heap.size W w') := Lib.hid (fun W h => (lfind_any R o B n cs g i W h hi).mono (by
    rintro e w' ⟨⟨p, rfl, hp⟩, hb⟩
    rw [hq] at hp
    obtain ⟨a, rfl, ha⟩ := hp
    exact ⟨a, rfl, ha, (h.more hb).cfAt hf, hb⟩))
  have KX : Hid (∀ (W : World) (k : Nat) b s r rc, q.f.l[k]? = some b → q.so[k]? = some s → CfAt W q.f → Row W r s → Calls Tryz.prog 57 #[aggCb b, .slice (some ⟨r, 0, none⟩) s.length rc] W fun e w' => e = .returned (.int .i64 (exP b s)) ∧ SW W w') := Lib.hid (fun W k b s r rc hb hs hcf hr => by
    have hl := hL.each k b s hb hs
    have h30 := hL.small.2 b (List.mem_of_getElem? hb)
    exact excess_any b (some ⟨r, 0, none⟩) rc s W (hcf.2 b (List.mem_of_getElem? hb)) (hL.lim (List.mem_of_getElem? hb)) (by omega) hr.intR)
  have HQX : Hid (exsP q.f.l q.so q.f.l.length = q.excess) := Lib.hid rfl
  generalize q.excess = xx at *
  clear hS hS' hq hL
  go_enter Tryz.func17, Tryz.ntmps17
  go_upto_region 1 with fail
  generalize w.alloc (.cells #[.string i.car, .int .i64 i.num, .int .i64 i.day, .string i.frm] lidT) = w5 at *
  go_upto_region 2 with (go_at_call 56; refine (K1.out _ HS.out).mono ?_; rintro e w6 ⟨a, rfl, ha, hcf, hb6⟩)
  have hb06 := hbA.trans (hb6.mono hbA.size)
  have d1 := ha.c1
  obtain ⟨sb, sc, d2, _, hrows⟩ := ha.rows
  have D2 := Lib.hid d2
  have HRS := Lib.hid hrows
  have HCF := Lib.hid hcf
  clear ha hrows hcf d2
  obtain ⟨m, hm⟩ : ∃ m, m = q.f.l.length := ⟨_, rfl⟩
  have HM := Lib.hid hm
  rw [← hm] at d1
  clear hm
  obtain ⟨sl, hsl⟩ : ∃ sl, sl = q.so.length := ⟨_, rfl⟩
  have HSL := Lib.hid hsl
  rw [← hsl] at D2
  clear hsl
  go_wp2
  clear d1
  go_loopw [20, 6] (fun vi vn wr => ∃ k : Nat, k ≤ m ∧ vi = .int .i64 k ∧ vn = .int .i64 (exsP q.f.l q.so k) ∧ SW w6 wr) (fun vi _ _ => m - (intOf vi).toNat)
  case atStart => exact ⟨0, Nat.zero_le _, rfl, rfl, Below.refl _ _⟩
  case round =>
    obtain ⟨k, hk, rfl, rfl, hSr⟩ := hrel
    by_cases hlt : k < m
    · obtain ⟨b, hb⟩ : ∃ b, q.f.l[k]? = some b := ⟨_, List.getElem?_eq_getElem (by have := HM.out; omega)⟩
      obtain ⟨s, hs⟩ : ∃ s, q.so[k]? = some s := ⟨_, List.getElem?_eq_getElem (by have := HM.out; have := hL0.out.len; omega)⟩
      have hcr := CfAt.more HCF.out hSr
      obtain ⟨gg, oo, hA, k0, k1, k2, k3⟩ := cab_cells hcr hb
      obtain ⟨r, rc, d3, hrow⟩ := HRS.out k s hs
      have j2 : (k : Int) < (m : Int) := by omega
      have hk30 : k < 100 := by have := HM.out; have := hL0.out.small.1; omega
      have j3 : (k : Int) < (sl : Int) := by have := HM.out; have := HSL.out; have := hL0.out.len; omega
      have j1 : (0 : Int) ≤ (k : Int) := by omega
      rw [Nat.add_zero] at k0
      rw [hA]
      have HE := Lib.hid (exsP_succ hb hs)
      have KX2 := Lib.hid (fun W (h : SW w6 W) => KX.out W k b s r rc hb hs (CfAt.more HCF.out h) (Row.more hrow h))
      clear hb hs hcr
      generalize exsP q.f.l q.so k = a0 at *
      generalize exP b s = a1 at *
      have hbB := bel_alloc wr (.cells #[.string b.name, .int .i64 b.seats, .int .i64 b.over, .slice b.A b.l.length b.c] cbT)
      obtain ⟨m0, m1, m2, m3⟩ := cb_new wr b
      have hSr2 := Below.trans hSr (Below.mono hbB hSr.size)
      have e2 := bel_cell hSr2 D2.out
      have e3 := bel_cell hSr2 d3
      clear d3 hrow
      go_upto_region 8 with fail
      clear k0 k1 k2 k3
      generalize wr.alloc (.cells #[.string b.name, .int .i64 b.seats, .int .i64 b.over, .slice b.A b.l.length b.c] cbT) = w8 at *
      have q0 := SW.cell m0
      have q1 := SW.cell m1
      have q2 := SW.cell m2
      have q3 := SW.cell m3
      have q4 := SW.cell e2
      have q5 := SW.cell e3
      clear m0 m1 m2 m3 e2 e3
      have KK : Hid (∀ W, SW w8 W → Calls Tryz.prog 57 #[.agg #[.string b.name, .int .i64 b.seats, .int .i64 b.over, .slice b.A b.l.length b.c], .slice (some ⟨r, 0, none⟩) s.length rc] W fun e w' => e = .returned (.int .i64 a1) ∧ SW w8 w') := Lib.hid (fun W h => (KX2.out W (Below.trans hSr2 (Below.mono h hSr2.size))).mono (by rintro e w' ⟨rfl, hb⟩; exact ⟨rfl, Below.trans h (Below.mono hb h.size)⟩))
      have hNe : Nonempty (Wd (SW w8)) := ⟨⟨_, SW.drew _⟩⟩
      refine quietS (S := SW w8) (by kernel_rfl) (by kernel_rfl) (SW.drew _) ?_
      repeat (first | go_big_quiet_skip | (go_big_quiet_want; go_big_quiet_op; first | go_big_quiet_on | go_big_quiet_call ((go_at_call 57; exact quiet_S (KK.out _ (Wd.ok _))))))
      refine wpQuiet_nil ?_
      rintro W ⟨⟨_, hW⟩, rfl⟩
      go_wp2
      go_roundw
      case rel => exact ⟨k + 1, by omega, by go_num, by first | (rw [HE.out]; done) | (rw [HE.out]; congr 1; rw [Int.max_def]; split <;> split <;> omega), Below.trans hSr2 (Below.mono hW hSr2.size)⟩
      case measure => simp [intOf]; omega
    · obtain rfl : k = m := by omega
      have HXX : Hid (exsP q.f.l q.so k = xx) := Lib.hid (by rw [← HQX.out, HM.out])
      go_wp2
      go_ret
      exact ⟨ret_int HXX.out, hb06.trans (Below.mono hSr hb06.size)⟩
def excG (g : Stk) (i : Lid) : Int := match g i with
  | some q => q.excess
  | none => 0
theorem lexcess_any (R : Nat → Prop) (o : Own') (B n : Nat) (cs : List Cf) (g : Stk) (K : Int) (i : Lid) (w : World) (hS : StkAt w R o B n cs g) (hG : OkG K cs g) (hi : OkD i) :
    Calls Tryz.prog 17 #[.pointer (some ⟨B, 0, none⟩), aggD i] w fun e w' => e = .returned (.int .i64 (excG g i)) ∧ Below w.heap.size w w' := by
  unfold excG
  cases hq : g i with
  | none => exact excess_none R o B n cs g K i w hS hi hq
  | some q => exact excess_some R o B n cs g K i q w hS hG hi hq
def eqpG (g : Stk) (i : Lid) : Value := match g i with
  | some q => .tuple #[.string q.f.equip, .bool true]
  | none => .tuple #[.string noB, .bool false]
theorem equip_any (R : Nat → Prop) (o : Own') (B n : Nat) (cs : List Cf) (g : Stk) (K : Int) (i : Lid) (w : World) (hS : StkAt w R o B n cs g) (hG : OkG K cs g) (hi : OkD i) :
    Calls Tryz.prog 28 #[.pointer (some ⟨B, 0, none⟩), aggD i] w fun e w' => e = .returned (eqpG g i) ∧ Below w.heap.size w w' := by
  unfold eqpG
  cases hq : g i with
  | none => exact equip_none R o B n cs g K i w hS hi hq
  | some q => exact equip_some R o B n cs g K i q w hS hG hi hq
end Go.Proofs.YtjmahmeionakaaaGreatDoor
