/- Equip, Free, Excess. -/
import Derived.Test.YtkghpapbifijcaaGreatDoorStkE
import Derived.BigQuiet
namespace Go.Proofs.YtkghpapbifijcaaGreatDoor
open Go.RowKit Go.Shelf Go.Maps Go.MapKept
set_option linter.unusedSimpArgs false
set_option linter.unusedVariables false

set_option maxRecDepth 100000 in
set_option maxHeartbeats 2000000 in
theorem equip_none (R : Nat → Prop) (o : Own') (B n : Nat) (cs : List Cf) (g : Stk) (K : Int) (i : Lid) (w : World) (hS : StkAt w R o B n cs g) (hi : OkD i) (hq : g i = none) :
    Calls Tryz.prog 28 #[.pointer (some ⟨B, 0, none⟩), aggD i] w fun e w' => e = .returned (.tuple #[.string noB, .bool false]) ∧ Below w.heap.size w w' := by
  have hbA := bel_alloc w (.cells #[.string i.car, .int .i64 i.num, .int .i64 i.day, .string i.frm] lidT)
  have hS' := hS.more hbA
  obtain ⟨l0, l1, l2, l3⟩ := lid_new w i
  have HS := Lib.hid hS'
  have K1 : Hid (∀ W, StkAt W R o B n cs g → Calls Tryz.prog 56 #[.pointer (some ⟨B, 0, none⟩), aggD i] W fun e w' => e = .returned (.pointer none) ∧ Below W.heap.size W w') := Lib.hid (fun W h => (lfind_any R o B n cs g i W h hi).mono (by
    rintro e w' ⟨⟨p, rfl, hp⟩, hb⟩
    rw [hq] at hp
    obtain rfl := hp
    exact ⟨rfl, hb⟩))
  clear hS hS' hq
  go_enter Tryz.func28, Tryz.ntmps28
  go_upto_region 1 with fail
  generalize w.alloc (.cells #[.string i.car, .int .i64 i.num, .int .i64 i.day, .string i.frm] lidT) = w5 at *
  go_wp2_with (go_at_call 56; refine (K1.out _ HS.out).mono ?_; rintro e w6 ⟨rfl, hb6⟩)
  refine bodyPost_ret (results_tmp2 rfl _ _ _) rfl ⟨rfl, hbA.trans (hb6.mono hbA.size)⟩
set_option maxRecDepth 100000 in
set_option maxHeartbeats 2000000 in
theorem excess_none (R : Nat → Prop) (o : Own') (B n : Nat) (cs : List Cf) (g : Stk) (K : Int) (i : Lid) (w : World) (hS : StkAt w R o B n cs g) (hi : OkD i) (hq : g i = none) :
    Calls Tryz.prog 17 #[.pointer (some ⟨B, 0, none⟩), aggD i] w fun e w' => e = .returned (.int .i64 0) ∧ Below w.heap.size w w' := by
  have hbA := bel_alloc w (.cells #[.string i.car, .int .i64 i.num, .int .i64 i.day, .string i.frm] lidT)
  have hS' := hS.more hbA
  obtain ⟨l0, l1, l2, l3⟩ := lid_new w i
  have HS := Lib.hid hS'
  have K1 : Hid (∀ W, StkAt W R o B n cs g → Calls Tryz.prog 56 #[.pointer (some ⟨B, 0, none⟩), aggD i] W fun e w' => e = .returned (.pointer none) ∧ Below W.heap.size W w') := Lib.hid (fun W h => (lfind_any R o B n cs g i W h hi).mono (by
    rintro e w' ⟨⟨p, rfl, hp⟩, hb⟩
    rw [hq] at hp
    obtain rfl := hp
    exact ⟨rfl, hb⟩))
  clear hS hS' hq
  go_enter Tryz.func17, Tryz.ntmps17
  go_upto_region 1 with fail
  generalize w.alloc (.cells #[.string i.car, .int .i64 i.num, .int .i64 i.day, .string i.frm] lidT) = w5 at *
  go_wp2_with (go_at_call 56; refine (K1.out _ HS.out).mono ?_; rintro e w6 ⟨rfl, hb6⟩)
  go_ret
  exact ⟨rfl, hbA.trans (hb6.mono hbA.size)⟩
set_option maxRecDepth 100000 in
set_option maxHeartbeats 2000000 in
theorem equip_some (R : Nat → Prop) (o : Own') (B n : Nat) (cs : List Cf) (g : Stk) (K : Int) (i : Lid) (q : Lg) (w : World) (hS : StkAt w R o B n cs g) (hG : OkG K cs g) (hi : OkD i) (hq : g i = some q) :
    Calls Tryz.prog 28 #[.pointer (some ⟨B, 0, none⟩), aggD i] w fun e w' => e = .returned (.tuple #[.string q.f.equip, .bool true]) ∧ Below w.heap.size w w' := by
  have hbA := bel_alloc w (.cells #[.string i.car, .int .i64 i.num, .int .i64 i.day, .string i.frm] lidT)
  have hS' := hS.more hbA
  obtain ⟨l0, l1, l2, l3⟩ := lid_new w i
  have HS := Lib.hid hS'
  obtain ⟨hL, hf⟩ := hG.leg i q hq
  have K1 : Hid (∀ W, StkAt W R o B n cs g → Calls Tryz.prog 56 #[.pointer (some ⟨B, 0, none⟩), aggD i] W fun e w' => ∃ a, e = .returned (.pointer (some ⟨a, 0, none⟩)) ∧ LegAt w' o i a q ∧ CfAt w' q.f ∧ Below W.heap.size W w') := Lib.hid (fun W h => (lfind_any R o B n cs g i W h hi).mono (by
    rintro e w' ⟨⟨p, rfl, hp⟩, hb⟩
    rw [hq] at hp
    obtain ⟨a, rfl, ha⟩ := hp
    exact ⟨a, rfl, ha, (h.more hb).cfAt hf, hb⟩))
  clear hS hS' hq hL
  go_enter Tryz.func28, Tryz.ntmps28
  go_upto_region 1 with fail
  generalize w.alloc (.cells #[.string i.car, .int .i64 i.num, .int .i64 i.day, .string i.frm] lidT) = w5 at *
  go_upto_region 2 with (go_at_call 56; refine (K1.out _ HS.out).mono ?_; rintro e w6 ⟨a, rfl, ha, hcf, hb6⟩)
  have d0 := ha.c0
  clear ha
  go_wp2
  refine bodyPost_ret (results_tmp2 rfl _ _ _) rfl ⟨rfl, hbA.trans (hb6.mono hbA.size)⟩
/-- the rows of a leg in memory -/
theorem LegAt.rows {w : World} {o : Own'} {i : Lid} {a : Nat} {q : Lg} (h : LegAt w o i a q) : ∃ sb sc, w.cell? ⟨a, 2, none⟩ = some (.slice (some ⟨sb, 0, none⟩) q.so.length sc) ∧ sb < w.heap.size ∧ ∀ (k : Nat) (s : List Int), q.so[k]? = some s → ∃ r rc, w.cell? ⟨sb, k, none⟩ = some (.slice (some ⟨r, 0, none⟩) s.length rc) ∧ Row w r s := by
  obtain ⟨v, h2, sb, sc, rfl, h3, h4, h5⟩ := h.c2
  refine ⟨sb, sc, h2, h4, fun k s hk => ?_⟩
  obtain ⟨r, rc, g1, _, g3⟩ := h5 k s hk
  exact ⟨r, rc, g1, g3⟩
theorem take_succ_sum {s : List Int} {k : Nat} {x : Int} (h : s[k]? = some x) : sumI (s.take (k + 1)) = sumI (s.take k) + x := by
  obtain ⟨hk, rfl⟩ := List.getElem?_eq_some_iff.1 h
  rw [List.take_add_one, List.getElem?_eq_getElem hk, sumI_app]
  simp [sumI]
theorem sum_take_le {s : List Int} (h : ∀ x ∈ s, 0 ≤ x) : ∀ k, 0 ≤ sumI (s.take k) ∧ sumI (s.take k) ≤ sumI s := by
  induction s with
  | nil => intro k; simp [sumI]
  | cons y r ih =>
    intro k
    have h1 := h y (by simp)
    have h2 := ih (fun x hx => h x (by simp [hx]))
    cases k with
    | zero => have := h2 0; simp only [List.take_zero, sumI] at *; omega
    | succ k => have := h2 k; simp only [List.take_succ_cons, sumI] at *; omega
theorem tot_each {so : List (List Int)} (h : ∀ s ∈ so, ∀ x ∈ s, 0 ≤ x) : ∀ s ∈ so, 0 ≤ sumI s ∧ sumI s ≤ totP so := by
  have h0 : ∀ s ∈ so, 0 ≤ sumI s := fun s hs => by have := sum_take_le (h s hs) s.length; rw [List.take_length] at this; exact this.1
  unfold totP
  induction so with
  | nil => intro s hs; cases hs
  | cons t r ih =>
    intro s hs
    have h1 := h0 t (by simp)
    have hall : ∀ x ∈ r.map sumI, 0 ≤ x := fun x hx => by obtain ⟨u, hu, rfl⟩ := List.mem_map.1 hx; exact h0 u (by simp [hu])
    have h3 : 0 ≤ sumI (r.map sumI) := by have := sum_take_le hall (r.map sumI).length; rw [List.take_length] at this; exact this.1
    rcases List.mem_cons.1 hs with rfl | hs
    · simp only [List.map_cons, sumI]; omega
    · have := ih (fun s hs => h s (by simp [hs])) (fun s hs => h0 s (by simp [hs])) s hs
      simp only [List.map_cons, sumI]; omega
set_option maxRecDepth 100000 in
set_option maxHeartbeats 8000000 in
theorem free_yes (R : Nat → Prop) (o : Own') (B n : Nat) (cs : List Cf) (g : Stk) (K : Int) (i : Lid) (q : Lg) (c : ByteArray) (w : World) (hS : StkAt w R o B n cs g) (hG : OkG K cs g) (hK : K ≤ 1000000000000) (hi : OkD i) (hq : g i = some q) (hc : q.has c = true) :
    Calls Tryz.prog 38 #[.pointer (some ⟨B, 0, none⟩), aggD i, .string c] w fun e w' => e = .returned (.int .i64 (q.free c)) ∧ Below w.heap.size w w' := by
  have hbA := bel_alloc w (.cells #[.string i.car, .int .i64 i.num, .int .i64 i.day, .string i.frm] lidT)
  have hS' := hS.more hbA
  obtain ⟨l0, l1, l2, l3⟩ := lid_new w i
  have HS := Lib.hid hS'
  have K1 := Lib.hid (fun W h => lplace_yes R o B n cs g K i q c W h hG hi hq hc)
  obtain ⟨hL, hf⟩ := hG.leg i q hq
  obtain ⟨b, s, x, hP⟩ := hL.plc hc
  have hlim := hL.lim (List.mem_of_getElem? hP.hb)
  have hsl : s.length ≤ 30 := by rw [hP.len]; exact hL.small.2 b (List.mem_of_getElem? hP.hb)
  have hsiz := sizB_in hlim.siz
  have hlow := hL.low s (List.mem_of_getElem? hP.hs)
  have htot := (tot_each hL.low s (List.mem_of_getElem? hP.hs)).2
  have hK2 := hL.tot
  have HT : Hid (∀ k, 0 ≤ sumI (s.take k) ∧ sumI (s.take k) ≤ 1000000000000) := Lib.hid (fun k => by have := sum_take_le hlow k; omega)
  have HX : Hid (∀ x ∈ s, 0 ≤ x ∧ x ≤ 1000000000000) := Lib.hid (fun x hx => by
    obtain ⟨j, hj, rfl⟩ := List.getElem_of_mem hx
    have h1 := take_succ_sum (List.getElem?_eq_getElem hj)
    have h2 := sum_take_le hlow (j + 1)
    have h3 := sum_take_le hlow j
    exact ⟨hlow _ hx, by omega⟩)
  have HR : Hid (q.free c = max (b.seats + b.over - sumI s) 0) := Lib.hid (by unfold Lg.free; rw [hP.cab, hP.row, hc]; rfl)
  have KN : Hid (∀ W a, LegAt W o i a q → ∃ sb sc r rc, W.cell? ⟨a, 2, none⟩ = some (.slice (some ⟨sb, 0, none⟩) q.so.length sc) ∧ W.cell? ⟨sb, q.ci c, none⟩ = some (.slice (some ⟨r, 0, none⟩) s.length rc) ∧ W.cell? ⟨r, q.ck c, none⟩ = some (.int .i64 x) ∧ o r = .row i (q.ci c) ∧ Row W r s ∧ q.ci c < q.so.length ∧ q.ck c < s.length) := Lib.hid (fun W a h => h.num hP)
  have KC : Hid (∀ W, SW w W → CfAt W q.f ∧ ∃ gg oo, q.f.A = some ⟨gg, oo, none⟩ ∧ W.cell? ⟨gg, oo + q.ci c * 4 + 0, none⟩ = some (.string b.name) ∧ W.cell? ⟨gg, oo + q.ci c * 4 + 1, none⟩ = some (.int .i64 b.seats) ∧ W.cell? ⟨gg, oo + q.ci c * 4 + 2, none⟩ = some (.int .i64 b.over) ∧ W.cell? ⟨gg, oo + q.ci c * 4 + 3, none⟩ = some (.slice b.A b.l.length b.c)) := Lib.hid (fun W h => ⟨(hS.more h).cfAt hf, cab_cells ((hS.more h).cfAt hf) hP.hb⟩)
  have KA := Lib.hid (fun W => auth_any b W hlim.siz)
  have hil : q.ci c < q.f.l.length := (List.getElem?_eq_some_iff.1 hP.hb).1
  rw [HR.out]
  generalize q.ci c = ni at K1 KN KC hil
  generalize q.ck c = nk at K1 KN
  have HSZ := Lib.hid hsiz
  clear hS' hq hc hP hlim HR hL hlow htot hK2 hsiz hK
  generalize q.so.length = sl at KN
  go_enter Tryz.func38, Tryz.ntmps38
  go_upto_region 1 with fail
  generalize hw5 : w.alloc (.cells #[.string i.car, .int .i64 i.num, .int .i64 i.day, .string i.frm] lidT) = w5 at *
  go_upto_region 2 with (go_at_call 58; refine (K1.out _ HS.out).mono ?_; rintro e w6 ⟨a, rfl, ha, hb6⟩)
  have hb06 := hbA.trans (hb6.mono hbA.size)
  obtain ⟨sb, sc, r, rc, d2, d3, _, _, hrow, d5, d6⟩ := KN.out _ _ ha
  obtain ⟨hcf, gg, oo, hA, k0, k1, k2, k3⟩ := KC.out _ hb06
  have d1 := ha.c1
  rw [hA] at d1
  have i1 : (0 : Int) ≤ (ni : Int) := by omega
  have i2 : (ni : Int) < (sl : Int) := by omega
  have i2' : (ni : Int) < (q.f.l.length : Int) := by omega
  have HRW := Lib.hid hrow
  rw [Nat.add_zero] at k0
  clear ha d5 d6 hcf hrow hil
  go_upto_region 5 with (go_at_call 80; refine (KA.out _).mono ?_; rintro e w7 ⟨rfl, hb7⟩)
  have d2 := bel_cell hb7 d2
  have d3 := bel_cell hb7 d3
  have hb07 := hb06.trans (Below.mono hb7 hb06.size)
  have HRW7 := Lib.hid (HRW.out.more hb7)
  clear k0 k1 k2 k3 d1
  obtain ⟨t, ht⟩ : ∃ t, t = b.seats + b.over := ⟨_, rfl⟩
  have HTT := Lib.hid ht
  rw [← ht]
  clear ht
  go_wp2
  go_loopw [40, 10] (fun vi vn wr => ∃ k : Nat, k ≤ s.length ∧ vi = .int .i64 k ∧ vn = .int .i64 (t - sumI (s.take k)) ∧ wr = w7) (fun vi _ _ => s.length - (intOf vi).toNat)
  case atStart => exact ⟨0, Nat.zero_le _, rfl, by simp [sumI], rfl⟩
  case round =>
    obtain ⟨k, hk, rfl, rfl, rfl⟩ := hrel
    by_cases hlt : k < s.length
    · obtain ⟨y, hy⟩ : ∃ y, s[k]? = some y := ⟨_, List.getElem?_eq_getElem hlt⟩
      have z0 := HRW7.out.at hy
      have j2 : (k : Int) < (s.length : Int) := by omega
      have hy2 := HX.out y (List.mem_of_getElem? hy)
      have hS1 := HT.out k
      have hSZ := HSZ.out
      have hT := HTT.out
      have hw := IntWalk.i64_in (n := t - sumI (s.take k) - y) (by omega)
      have HE : Hid (t - sumI (s.take k) - y = t - sumI (s.take (k + 1))) := Lib.hid (by rw [take_succ_sum hy]; omega)
      clear hy hy2 hS1 hSZ hT
      generalize sumI (s.take k) = a0 at *
      go_wp2
      go_roundw
      case rel => exact ⟨k + 1, by omega, by go_num, by rw [← HE.out], by first | rfl | trivial⟩
      case measure => simp [intOf]; omega
    · obtain rfl : k = s.length := by omega
      rw [List.take_length]
      have HT2 := HTT.out
      go_wp2
      go_ret
      refine ⟨?_, hb07⟩
      rw [← HT2]
      first
        | rfl
        | (congr 2; rw [Int.max_def]; split <;> split <;> omega)
set_option maxRecDepth 100000 in
set_option maxHeartbeats 2000000 in
theorem free_no (R : Nat → Prop) (o : Own') (B n : Nat) (cs : List Cf) (g : Stk) (K : Int) (i : Lid) (c : ByteArray) (w : World) (hS : StkAt w R o B n cs g) (hG : OkG K cs g) (hi : OkD i) (hc : ∀ q, g i = some q → q.has c = false) :
    Calls Tryz.prog 38 #[.pointer (some ⟨B, 0, none⟩), aggD i, .string c] w fun e w' => e = .returned (.int .i64 0) ∧ Below w.heap.size w w' := by
  have hbA := bel_alloc w (.cells #[.string i.car, .int .i64 i.num, .int .i64 i.day, .string i.frm] lidT)
  have hS' := hS.more hbA
  obtain ⟨l0, l1, l2, l3⟩ := lid_new w i
  have HS := Lib.hid hS'
  have K1 := Lib.hid (fun W h => lplace_no R o B n cs g K i c W h hG hi hc)
  clear hS hS' hc
  go_enter Tryz.func38, Tryz.ntmps38
  go_upto_region 1 with fail
  generalize w.alloc (.cells #[.string i.car, .int .i64 i.num, .int .i64 i.day, .string i.frm] lidT) = w5 at *
  go_wp2_with (go_at_call 58; refine (K1.out _ HS.out).mono ?_; rintro e w6 ⟨rfl, hb6⟩)
  go_ret
  exact ⟨rfl, hbA.trans (hb6.mono hbA.size)⟩
def freeG (g : Stk) (i : Lid) (c : ByteArray) : Int := match g i with
  | some q => q.free c
  | none => 0
theorem free_any (R : Nat → Prop) (o : Own') (B n : Nat) (cs : List Cf) (g : Stk) (K : Int) (i : Lid) (c : ByteArray) (w : World) (hS : StkAt w R o B n cs g) (hG : OkG K cs g) (hK : K ≤ 1000000000000) (hi : OkD i) :
    Calls Tryz.prog 38 #[.pointer (some ⟨B, 0, none⟩), aggD i, .string c] w fun e w' => e = .returned (.int .i64 (freeG g i c)) ∧ Below w.heap.size w w' := by
  unfold freeG
  cases hq : g i with
  | none => exact free_no R o B n cs g K i c w hS hG hi (fun q h => by rw [hq] at h; cases h)
  | some q =>
    cases h : q.has c with
    | true => exact free_yes R o B n cs g K i q c w hS hG hK hi hq h
    | false =>
      have e : q.free c = 0 := by unfold Lg.free; rw [if_pos h]
      show Calls _ _ _ _ fun e w' => e = .returned (.int .i64 (q.free c)) ∧ _
      rw [e]
      exact free_no R o B n cs g K i c w hS hG hi (fun q' h' => by rw [hq] at h'; cases h'; exact h)
theorem exsP_succ {l : List Cb} {so : List (List Int)} {k : Nat} {b : Cb} {s : List Int} (hb : l[k]? = some b) (hs : so[k]? = some s) : exsP l so (k + 1) = max (exsP l so k) (exP b s) := by
  rw [exsP, hb, hs]
theorem cb_new (w : World) (b : Cb) : (w.alloc (.cells #[.string b.name, .int .i64 b.seats, .int .i64 b.over, .slice b.A b.l.length b.c] cbT)).cell? ⟨w.heap.size, 0, none⟩ = some (.string b.name) ∧ (w.alloc (.cells #[.string b.name, .int .i64 b.seats, .int .i64 b.over, .slice b.A b.l.length b.c] cbT)).cell? ⟨w.heap.size, 1, none⟩ = some (.int .i64 b.seats) ∧ (w.alloc (.cells #[.string b.name, .int .i64 b.seats, .int .i64 b.over, .slice b.A b.l.length b.c] cbT)).cell? ⟨w.heap.size, 2, none⟩ = some (.int .i64 b.over) ∧ (w.alloc (.cells #[.string b.name, .int .i64 b.seats, .int .i64 b.over, .slice b.A b.l.length b.c] cbT)).cell? ⟨w.heap.size, 3, none⟩ = some (.slice b.A b.l.length b.c) :=
  ⟨(cells_new w _ cbT 0).trans rfl, (cells_new w _ cbT 1).trans rfl, (cells_new w _ cbT 2).trans rfl, (cells_new w _ cbT 3).trans rfl⟩
set_option maxRecDepth 100000 in
set_option maxHeartbeats 8000000 in
theorem excess_some (R : Nat → Prop) (o : Own') (B n : Nat) (cs : List Cf) (g : Stk) (K : Int) (i : Lid) (q : Lg) (w : World) (hS : StkAt w R o B n cs g) (hG : OkG K cs g) (hi : OkD i) (hq : g i = some q) :
    Calls Tryz.prog 17 #[.pointer (some ⟨B, 0, none⟩), aggD i] w fun e w' => e = .returned (.int .i64 q.excess) ∧ Below w.heap.size w w' := by
  have hbA := bel_alloc w (.cells #[.string i.car, .int .i64 i.num, .int .i64 i.day, .string i.frm] lidT)
  have hS' := hS.more hbA
  obtain ⟨l0, l1, l2, l3⟩ := lid_new w i
  have HS := Lib.hid hS'
  obtain ⟨hL, hf⟩ := hG.leg i q hq
  have hL0 := Lib.hid hL
  have K1 : Hid (∀ W, StkAt W R o B n cs g → Calls Tryz.prog 56 #[.pointer (some ⟨B, 0, none⟩), aggD i] W fun e w' => ∃ a, e = .returned (.pointer (some ⟨a, 0, none⟩)) ∧ LegAt w' o i a q ∧ CfAt w' q.f ∧ Below W.heap.size W w') := Lib.hid (fun W h => (lfind_any R o B n cs g i W h hi).mono (by
    rintro e w' ⟨⟨p, rfl, hp⟩, hb⟩
    rw [hq] at hp
    obtain ⟨a, rfl, ha⟩ := hp
    exact ⟨a, rfl, ha, (h.more hb).cfAt hf, hb⟩))
  have KX : Hid (∀ (W : World) (k : Nat) b s r rc, q.f.l[k]? = some b → q.so[k]? = some s → CfAt W q.f → Row W r s → Calls Tryz.prog 57 #[aggCb b, .slice (some ⟨r, 0, none⟩) s.length rc] W fun e w' => e = .returned (.int .i64 (exP b s)) ∧ SW W w') := Lib.hid (fun W k b s r rc hb hs hcf hr => by
    have hl := hL.each k b s hb hs
    have h30 := hL.small.2 b (List.mem_of_getElem? hb)
    exact excess_any b (some ⟨r, 0, none⟩) rc s W (hcf.2 b (List.mem_of_getElem? hb)) (hL.lim (List.mem_of_getElem? hb)) (by omega) hr.intR)
  have HQX : Hid (exsP q.f.l q.so q.f.l.length = q.excess) := Lib.hid rfl
  generalize q.excess = xx at *
  clear hS hS' hq hL
  go_enter Tryz.func17, Tryz.ntmps17
  go_upto_region 1 with fail
  generalize w.alloc (.cells #[.string i.car, .int .i64 i.num, .int .i64 i.day, .string i.frm] lidT) = w5 at *
  go_upto_region 2 with (go_at_call 56; refine (K1.out _ HS.out).mono ?_; rintro e w6 ⟨a, rfl, ha, hcf, hb6⟩)
  have hb06 := hbA.trans (hb6.mono hbA.size)
  have d1 := ha.c1
  obtain ⟨sb, sc, d2, _, hrows⟩ := ha.rows
  have D2 := Lib.hid d2
  have HRS := Lib.hid hrows
  have HCF := Lib.hid hcf
  clear ha hrows hcf d2
  obtain ⟨m, hm⟩ : ∃ m, m = q.f.l.length := ⟨_, rfl⟩
  have HM := Lib.hid hm
  rw [← hm] at d1
  clear hm
  obtain ⟨sl, hsl⟩ : ∃ sl, sl = q.so.length := ⟨_, rfl⟩
  have HSL := Lib.hid hsl
  rw [← hsl] at D2
  clear hsl
  go_wp2
  clear d1
  go_loopw [20, 6] (fun vi vn wr => ∃ k : Nat, k ≤ m ∧ vi = .int .i64 k ∧ vn = .int .i64 (exsP q.f.l q.so k) ∧ SW w6 wr) (fun vi _ _ => m - (intOf vi).toNat)
  case atStart => exact ⟨0, Nat.zero_le _, rfl, rfl, Below.refl _ _⟩
  case round =>
    obtain ⟨k, hk, rfl, rfl, hSr⟩ := hrel
    by_cases hlt : k < m
    · obtain ⟨b, hb⟩ : ∃ b, q.f.l[k]? = some b := ⟨_, List.getElem?_eq_getElem (by have := HM.out; omega)⟩
      obtain ⟨s, hs⟩ : ∃ s, q.so[k]? = some s := ⟨_, List.getElem?_eq_getElem (by have := HM.out; have := hL0.out.len; omega)⟩
      have hcr := CfAt.more HCF.out hSr
      obtain ⟨gg, oo, hA, k0, k1, k2, k3⟩ := cab_cells hcr hb
      obtain ⟨r, rc, d3, hrow⟩ := HRS.out k s hs
      have j2 : (k : Int) < (m : Int) := by omega
      have hk30 : k < 100 := by have := HM.out; have := hL0.out.small.1; omega
      have j3 : (k : Int) < (sl : Int) := by have := HM.out; have := HSL.out; have := hL0.out.len; omega
      have j1 : (0 : Int) ≤ (k : Int) := by omega
      rw [Nat.add_zero] at k0
      rw [hA]
      have HE := Lib.hid (exsP_succ hb hs)
      have KX2 := Lib.hid (fun W (h : SW w6 W) => KX.out W k b s r rc hb hs (CfAt.more HCF.out h) (Row.more hrow h))
      clear hb hs hcr
      generalize exsP q.f.l q.so k = a0 at *
      generalize exP b s = a1 at *
      have hbB := bel_alloc wr (.cells #[.string b.name, .int .i64 b.seats, .int .i64 b.over, .slice b.A b.l.length b.c] cbT)
      obtain ⟨m0, m1, m2, m3⟩ := cb_new wr b
      have hSr2 := Below.trans hSr (Below.mono hbB hSr.size)
      have e2 := bel_cell hSr2 D2.out
      have e3 := bel_cell hSr2 d3
      clear d3 hrow
      go_upto_region 8 with fail
      clear k0 k1 k2 k3
      generalize wr.alloc (.cells #[.string b.name, .int .i64 b.seats, .int .i64 b.over, .slice b.A b.l.length b.c] cbT) = w8 at *
      have q0 := SW.cell m0
      have q1 := SW.cell m1
      have q2 := SW.cell m2
      have q3 := SW.cell m3
      have q4 := SW.cell e2
      have q5 := SW.cell e3
      clear m0 m1 m2 m3 e2 e3
      have KK : Hid (∀ W, SW w8 W → Calls Tryz.prog 57 #[.agg #[.string b.name, .int .i64 b.seats, .int .i64 b.over, .slice b.A b.l.length b.c], .slice (some ⟨r, 0, none⟩) s.length rc] W fun e w' => e = .returned (.int .i64 a1) ∧ SW w8 w') := Lib.hid (fun W h => (KX2.out W (Below.trans hSr2 (Below.mono h hSr2.size))).mono (by rintro e w' ⟨rfl, hb⟩; exact ⟨rfl, Below.trans h (Below.mono hb h.size)⟩))
      have hNe : Nonempty (Wd (SW w8)) := ⟨⟨_, SW.drew _⟩⟩
      refine quietS (S := SW w8) (by kernel_rfl) (by kernel_rfl) (SW.drew _) ?_
      repeat (first | go_big_quiet_skip | (go_big_quiet_want; go_big_quiet_op; first | go_big_quiet_on | go_big_quiet_call ((go_at_call 57; exact quiet_S (KK.out _ (Wd.ok _))))))
      refine wpQuiet_nil ?_
      rintro W ⟨⟨_, hW⟩, rfl⟩
      go_wp2
      go_roundw
      case rel => exact ⟨k + 1, by omega, by go_num, by first | (rw [HE.out]; done) | (rw [HE.out]; congr 1; rw [Int.max_def]; split <;> split <;> omega), Below.trans hSr2 (Below.mono hW hSr2.size)⟩
      case measure => simp [intOf]; omega
    · obtain rfl : k = m := by omega
      have HXX : Hid (exsP q.f.l q.so k = xx) := Lib.hid (by rw [← HQX.out, HM.out])
      go_wp2
      go_ret
      exact ⟨ret_int HXX.out, hb06.trans (Below.mono hSr hb06.size)⟩
def excG (g : Stk) (i : Lid) : Int := match g i with
  | some q => q.excess
  | none => 0
theorem lexcess_any (R : Nat → Prop) (o : Own') (B n : Nat) (cs : List Cf) (g : Stk) (K : Int) (i : Lid) (w : World) (hS : StkAt w R o B n cs g) (hG : OkG K cs g) (hi : OkD i) :
    Calls Tryz.prog 17 #[.pointer (some ⟨B, 0, none⟩), aggD i] w fun e w' => e = .returned (.int .i64 (excG g i)) ∧ Below w.heap.size w w' := by
  unfold excG
  cases hq : g i with
  | none => exact excess_none R o B n cs g K i w hS hi hq
  | some q => exact excess_some R o B n cs g K i q w hS hG hi hq
def eqpG (g : Stk) (i : Lid) : Value := match g i with
  | some q => .tuple #[.string q.f.equip, .bool true]
  | none => .tuple #[.string noB, .bool false]
theorem equip_any (R : Nat → Prop) (o : Own') (B n : Nat) (cs : List Cf) (g : Stk) (K : Int) (i : Lid) (w : World) (hS : StkAt w R o B n cs g) (hG : OkG K cs g) (hi : OkD i) :
    Calls Tryz.prog 28 #[.pointer (some ⟨B, 0, none⟩), aggD i] w fun e w' => e = .returned (eqpG g i) ∧ Below w.heap.size w w' := by
  unfold eqpG
  cases hq : g i with
  | none => exact equip_none R o B n cs g K i w hS hi hq
  | some q => exact equip_some R o B n cs g K i q w hS hG hi hq
end Go.Proofs.YtkghpapbifijcaaGreatDoor
