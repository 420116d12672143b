/- The place of a class on a leg; has, sold. -/
import Derived.Test.YtkghpapbifijcaaGreatDoorStkB
namespace Go.Proofs.YtkghpapbifijcaaGreatDoor
open Go.RowKit Go.Shelf Go.Maps Go.MapKept
set_option linter.unusedSimpArgs false
set_option linter.unusedVariables false

theorem plF_at : ∀ (l : List Cb) (s : ByteArray) (i k : Int), plF l s = some (i, k) → ∃ (b : Cb) (x : Cl), l[i.toNat]? = some b ∧ b.l[k.toNat]? = some x ∧ codeQ s x = true ∧ 0 ≤ i ∧ 0 ≤ k
  | [], s, i, k, h => by cases h
  | b :: r, s, i, k, h => by
    rw [plF] at h
    split at h
    · rename_i h0
      simp only [Option.some.injEq, Prod.mk.injEq] at h
      obtain ⟨rfl, rfl⟩ := h
      rcases idxQ_find (codeQ s) b.l with ⟨h1, _, _⟩ | ⟨m, x, h1, h2, _, _, h5, _⟩
      · omega
      · exact ⟨b, x, rfl, by rw [h1]; exact h2, h5, Int.le_refl _, h0⟩
    · cases hr : plF r s with
      | none => rw [hr] at h; cases h
      | some p =>
        rw [hr] at h
        simp only [Option.map_some, Option.some.injEq, Prod.mk.injEq] at h
        obtain ⟨rfl, rfl⟩ := h
        obtain ⟨b', x, h1, h2, h3, h4, h5⟩ := plF_at r s p.1 p.2 hr
        refine ⟨b', x, ?_, h2, h3, by omega, h5⟩
        rw [show (p.1 + 1).toNat = p.1.toNat + 1 by omega]
        simpa using h1
theorem pl_at {l : List Cb} {s : ByteArray} (h : plB l s = true) : ∃ (b : Cb) (x : Cl), l[(plI l s).toNat]? = some b ∧ b.l[(plK l s).toNat]? = some x ∧ codeQ s x = true ∧ 0 ≤ plI l s ∧ 0 ≤ plK l s := by
  unfold plB at h
  cases hp : plF l s with
  | none => rw [hp] at h; cases h
  | some p =>
    obtain ⟨h1, h2, _⟩ := pl_yes (l := l) (s := s) (i := p.1) (k := p.2) hp
    rw [h1, h2]
    exact plF_at l s p.1 p.2 hp
/-- where a class lies, and its row -/
structure PlcR (q : Lg) (c : ByteArray) (b : Cb) (s : List Int) (x : Int) : Prop where
  hb : q.f.l[q.ci c]? = some b
  hs : q.so[q.ci c]? = some s
  hx : s[q.ck c]? = some x
  len : s.length = b.l.length
  lt : q.ck c < b.l.length
  hi : (q.ci c : Int) = plI q.f.l c
  hk : (q.ck c : Int) = plK q.f.l c
theorem OkL.plc {K : Int} {q : Lg} (h : OkL K q) {c : ByteArray} (hc : q.has c = true) : ∃ b s x, PlcR q c b s x := by
  obtain ⟨b, y, h1, h2, h3, h4, h5⟩ := pl_at hc
  have hlt := (List.getElem?_eq_some_iff.1 h1).1
  obtain ⟨s, hs⟩ : ∃ s, q.so[(plI q.f.l c).toNat]? = some s := ⟨_, List.getElem?_eq_getElem (by rw [h.len]; exact hlt)⟩
  have hsl := h.each _ b s h1 hs
  have hk := (List.getElem?_eq_some_iff.1 h2).1
  obtain ⟨x, hx⟩ : ∃ x, s[(plK q.f.l c).toNat]? = some x := ⟨_, List.getElem?_eq_getElem (by rw [hsl]; exact hk)⟩
  exact ⟨b, s, x, h1, hs, hx, hsl, hk, Int.toNat_of_nonneg h4, Int.toNat_of_nonneg h5⟩
theorem PlcR.sold {q : Lg} {c : ByteArray} {b : Cb} {s : List Int} {x : Int} (h : PlcR q c b s x) : q.sold c = x := by
  unfold Lg.sold Lg.row
  rw [h.hs]
  simp only [Option.getD_some]
  rw [h.hx]
  rfl
theorem PlcR.row {q : Lg} {c : ByteArray} {b : Cb} {s : List Int} {x : Int} (h : PlcR q c b s x) : q.row (q.ci c) = s := by unfold Lg.row; rw [h.hs]; rfl
theorem PlcR.cab {q : Lg} {c : ByteArray} {b : Cb} {s : List Int} {x : Int} (h : PlcR q c b s x) : q.cab (q.ci c) = b := by unfold Lg.cab; rw [h.hb]; rfl
theorem StkAt.cfAt {w : World} {R : Nat → Prop} {o : Own'} {B n : Nat} {cs : List Cf} {g : Stk} (h : StkAt w R o B n cs g) {f : Cf} (hf : f ∈ cs) : CfAt w f := (h.cfs f hf).1.at

set_option maxRecDepth 100000 in
set_option maxHeartbeats 2000000 in
theorem lplace_yes (R : Nat → Prop) (o : Own') (B n : Nat) (cs : List Cf) (g : Stk) (K : Int) (i : Lid) (q : Lg) (c : ByteArray) (w : World) (hS : StkAt w R o B n cs g) (hG : OkG K cs g) (hi : OkD i) (hq : g i = some q) (hc : q.has c = true) :
    Calls Tryz.prog 58 #[.pointer (some ⟨B, 0, none⟩), aggD i, .string c] w fun e w' => ∃ a, e = .returned (.tuple #[.pointer (some ⟨a, 0, none⟩), .int .i64 (q.ci c), .int .i64 (q.ck c)]) ∧ LegAt w' o i a q ∧ Below w.heap.size w w' := by
  have hbA := bel_alloc w (.cells #[.string i.car, .int .i64 i.num, .int .i64 i.day, .string i.frm] lidT)
  have hS' := hS.more hbA
  obtain ⟨l0, l1, l2, l3⟩ := lid_new w i
  obtain ⟨hL, hf⟩ := hG.leg i q hq
  obtain ⟨b, s, x, hP⟩ := hL.plc hc
  have hsm := hL.small
  have K1 : Hid (∀ W, StkAt W R o B n cs g → Calls Tryz.prog 56 #[.pointer (some ⟨B, 0, none⟩), aggD i] W fun e w' => ∃ a, e = .returned (.pointer (some ⟨a, 0, none⟩)) ∧ LegAt w' o i a q ∧ CfAt w' q.f ∧ Below W.heap.size W w') := Lib.hid (fun W h => (lfind_any R o B n cs g i W h hi).mono (by
    rintro e w' ⟨⟨p, rfl, hp⟩, hb⟩
    rw [hq] at hp
    obtain ⟨a, rfl, ha⟩ := hp
    exact ⟨a, rfl, ha, (h.more hb).cfAt hf, hb⟩))
  have K2 : Hid (∀ W, CfAt W q.f → Calls Tryz.prog 72 #[.agg #[.string q.f.equip, .slice q.f.A q.f.l.length q.f.c], .string c] W fun e w' => e = .returned (.tuple #[.int .i64 (q.ci c), .int .i64 (q.ck c), .bool true]) ∧ Below W.heap.size W w') := Lib.hid (fun W h => (place_any q.f.equip q.f.A q.f.c q.f.l c W h hsm.1 hsm.2).mono (by
    rintro e w' ⟨rfl, hb⟩
    refine ⟨?_, hb⟩
    rw [hP.hi, hP.hk, show plB q.f.l c = true from hc]))
  generalize hci : (q.ci c : Int) = vi at K2 ⊢
  generalize hck : (q.ck c : Int) = vk at K2 ⊢
  have HS := Lib.hid hS'
  clear hS hS' hL hP hc hsm hci hck hq
  go_enter Tryz.func58, Tryz.ntmps58
  go_upto_region 1 with fail
  generalize w.alloc (.cells #[.string i.car, .int .i64 i.num, .int .i64 i.day, .string i.frm] lidT) = w5 at *
  go_upto_region 2 with (go_at_call 56; refine (K1.out _ HS.out).mono ?_; rintro e w6 ⟨a, rfl, ha, hcf, hb6⟩)
  have c0 := ha.c0
  have c1 := ha.c1
  have HA := Lib.hid ha
  clear ha
  go_wp2_with (go_at_call 72; refine (K2.out _ hcf).mono ?_; rintro e w7 ⟨rfl, hb7⟩)
  refine bodyPost_ret (results_tmp3 rfl _ _ _) rfl ⟨a, rfl, HA.out.but (Below.but (fun _ => False) hb7) (fun k hk => hk.elim), hbA.trans ((hb6.trans (hb7.mono hb6.size)).mono hbA.size)⟩
set_option maxRecDepth 100000 in
set_option maxHeartbeats 2000000 in
theorem lplace_no (R : Nat → Prop) (o : Own') (B n : Nat) (cs : List Cf) (g : Stk) (K : Int) (i : Lid) (c : ByteArray) (w : World) (hS : StkAt w R o B n cs g) (hG : OkG K cs g) (hi : OkD i) (hc : ∀ q, g i = some q → q.has c = false) :
    Calls Tryz.prog 58 #[.pointer (some ⟨B, 0, none⟩), aggD i, .string c] w fun e w' => e = .returned (.tuple #[.pointer none, .int .i64 0, .int .i64 0]) ∧ Below w.heap.size w w' := by
  have hbA := bel_alloc w (.cells #[.string i.car, .int .i64 i.num, .int .i64 i.day, .string i.frm] lidT)
  have hS' := hS.more hbA
  obtain ⟨l0, l1, l2, l3⟩ := lid_new w i
  have HS := Lib.hid hS'
  cases hq : g i with
  | none =>
    have K1 : Hid (∀ W, StkAt W R o B n cs g → Calls Tryz.prog 56 #[.pointer (some ⟨B, 0, none⟩), aggD i] W fun e w' => e = .returned (.pointer none) ∧ Below W.heap.size W w') := Lib.hid (fun W h => (lfind_any R o B n cs g i W h hi).mono (by
      rintro e w' ⟨⟨p, rfl, hp⟩, hb⟩
      rw [hq] at hp
      obtain rfl := hp
      exact ⟨rfl, hb⟩))
    clear hS hS' hc hq
    go_enter Tryz.func58, Tryz.ntmps58
    go_upto_region 1 with fail
    generalize w.alloc (.cells #[.string i.car, .int .i64 i.num, .int .i64 i.day, .string i.frm] lidT) = w5 at *
    go_wp2_with (go_at_call 56; refine (K1.out _ HS.out).mono ?_; rintro e w6 ⟨rfl, hb6⟩)
    refine bodyPost_ret (results_tmp3 rfl _ _ _) rfl ⟨rfl, hbA.trans (hb6.mono hbA.size)⟩
  | some q =>
    obtain ⟨hL, hf⟩ := hG.leg i q hq
    have hsm := hL.small
    have hc := hc q hq
    have K1 : Hid (∀ W, StkAt W R o B n cs g → Calls Tryz.prog 56 #[.pointer (some ⟨B, 0, none⟩), aggD i] W fun e w' => ∃ a, e = .returned (.pointer (some ⟨a, 0, none⟩)) ∧ LegAt w' o i a q ∧ CfAt w' q.f ∧ Below W.heap.size W w') := Lib.hid (fun W h => (lfind_any R o B n cs g i W h hi).mono (by
      rintro e w' ⟨⟨p, rfl, hp⟩, hb⟩
      rw [hq] at hp
      obtain ⟨a, rfl, ha⟩ := hp
      exact ⟨a, rfl, ha, (h.more hb).cfAt hf, hb⟩))
    have K2 : Hid (∀ W, CfAt W q.f → Calls Tryz.prog 72 #[.agg #[.string q.f.equip, .slice q.f.A q.f.l.length q.f.c], .string c] W fun e w' => ∃ vi vk, e = .returned (.tuple #[.int .i64 vi, .int .i64 vk, .bool false]) ∧ Below W.heap.size W w') := Lib.hid (fun W h => (place_any q.f.equip q.f.A q.f.c q.f.l c W h hsm.1 hsm.2).mono (by
      rintro e w' ⟨rfl, hb⟩
      exact ⟨_, _, by rw [show plB q.f.l c = false from hc], hb⟩))
    clear hS hS' hL hc hsm hq
    go_enter Tryz.func58, Tryz.ntmps58
    go_upto_region 1 with fail
    generalize w.alloc (.cells #[.string i.car, .int .i64 i.num, .int .i64 i.day, .string i.frm] lidT) = w5 at *
    go_upto_region 2 with (go_at_call 56; refine (K1.out _ HS.out).mono ?_; rintro e w6 ⟨a, rfl, ha, hcf, hb6⟩)
    have c0 := ha.c0
    have c1 := ha.c1
    clear ha
    go_wp2_with (go_at_call 72; refine (K2.out _ hcf).mono ?_; rintro e w7 ⟨vi, vk, rfl, hb7⟩)
    refine bodyPost_ret (results_tmp3 rfl _ _ _) rfl ⟨rfl, hbA.trans ((hb6.trans (hb7.mono hb6.size)).mono hbA.size)⟩
set_option maxRecDepth 100000 in
set_option maxHeartbeats 2000000 in
theorem lhas_any (R : Nat → Prop) (o : Own') (B n : Nat) (cs : List Cf) (g : Stk) (K : Int) (i : Lid) (c : ByteArray) (w : World) (hS : StkAt w R o B n cs g) (hG : OkG K cs g) (hi : OkD i) :
    Calls Tryz.prog 64 #[.pointer (some ⟨B, 0, none⟩), aggD i, .string c] w fun e w' => e = .returned (.bool (onL g (fun q => q.has c) i)) ∧ Below w.heap.size w w' := by
  have hbA := bel_alloc w (.cells #[.string i.car, .int .i64 i.num, .int .i64 i.day, .string i.frm] lidT)
  have hS' := hS.more hbA
  obtain ⟨l0, l1, l2, l3⟩ := lid_new w i
  have HS := Lib.hid hS'
  cases hh : onL g (fun q => q.has c) i with
  | true =>
    obtain ⟨q, hq, hc⟩ : ∃ q, g i = some q ∧ q.has c = true := by
      unfold onL at hh
      cases hq : g i with
      | none => rw [hq] at hh; cases hh
      | some q => rw [hq] at hh; exact ⟨q, rfl, hh⟩
    have K1 := Lib.hid (fun W h => lplace_yes R o B n cs g K i q c W h hG hi hq hc)
    generalize (q.ci c : Int) = vi at K1
    generalize (q.ck c : Int) = vk at K1
    clear hS hS' hh hq hc
    go_enter Tryz.func64, Tryz.ntmps64
    go_upto_region 1 with fail
    generalize w.alloc (.cells #[.string i.car, .int .i64 i.num, .int .i64 i.day, .string i.frm] lidT) = w5 at *
    go_wp2_with (go_at_call 58; refine (K1.out _ HS.out).mono ?_; rintro e w6 ⟨a, rfl, _, hb6⟩)
    go_ret
    exact ⟨rfl, hbA.trans (hb6.mono hbA.size)⟩
  | false =>
    have K1 := Lib.hid (fun W h => lplace_no R o B n cs g K i c W h hG hi (fun q hq => by unfold onL at hh; rw [hq] at hh; exact hh))
    clear hS hS' hh
    go_enter Tryz.func64, Tryz.ntmps64
    go_upto_region 1 with fail
    generalize w.alloc (.cells #[.string i.car, .int .i64 i.num, .int .i64 i.day, .string i.frm] lidT) = w5 at *
    go_wp2_with (go_at_call 58; refine (K1.out _ HS.out).mono ?_; rintro e w6 ⟨rfl, hb6⟩)
    go_ret
    exact ⟨rfl, hbA.trans (hb6.mono hbA.size)⟩
/-- the cells of a class's number -/
theorem LegAt.num {w : World} {o : Own'} {i : Lid} {a : Nat} {q : Lg} (h : LegAt w o i a q) {c : ByteArray} {b : Cb} {s : List Int} {x : Int} (hP : PlcR q c b s x) :
    ∃ sb sc r rc, w.cell? ⟨a, 2, none⟩ = some (.slice (some ⟨sb, 0, none⟩) q.so.length sc) ∧ w.cell? ⟨sb, q.ci c, none⟩ = some (.slice (some ⟨r, 0, none⟩) s.length rc) ∧ w.cell? ⟨r, q.ck c, none⟩ = some (.int .i64 x) ∧ o r = .row i (q.ci c) ∧ Row w r s ∧ q.ci c < q.so.length ∧ q.ck c < s.length := by
  obtain ⟨v, h2, sb, sc, rfl, h3, h4, h5⟩ := h.c2
  obtain ⟨r, rc, g1, g2, g3⟩ := h5 _ s hP.hs
  exact ⟨sb, sc, r, rc, h2, g1, g3.at hP.hx, g2, g3, (List.getElem?_eq_some_iff.1 hP.hs).1, (List.getElem?_eq_some_iff.1 hP.hx).1⟩
set_option maxRecDepth 100000 in
set_option maxHeartbeats 2000000 in
theorem lsold_any (R : Nat → Prop) (o : Own') (B n : Nat) (cs : List Cf) (g : Stk) (K : Int) (i : Lid) (q : Lg) (c : ByteArray) (w : World) (hS : StkAt w R o B n cs g) (hG : OkG K cs g) (hi : OkD i) (hq : g i = some q) (hc : q.has c = true) :
    Calls Tryz.prog 79 #[.pointer (some ⟨B, 0, none⟩), aggD i, .string c] w fun e w' => e = .returned (.int .i64 (q.sold c)) ∧ Below w.heap.size w w' := by
  have hbA := bel_alloc w (.cells #[.string i.car, .int .i64 i.num, .int .i64 i.day, .string i.frm] lidT)
  have hS' := hS.more hbA
  obtain ⟨l0, l1, l2, l3⟩ := lid_new w i
  have HS := Lib.hid hS'
  have K1 := Lib.hid (fun W h => lplace_yes R o B n cs g K i q c W h hG hi hq hc)
  obtain ⟨b, s, x, hP⟩ := (hG.leg i q hq).1.plc hc
  rw [hP.sold]
  have HP := Lib.hid hP
  have KN : Hid (∀ W a, LegAt W o i a q → ∃ sb sc r rc, W.cell? ⟨a, 2, none⟩ = some (.slice (some ⟨sb, 0, none⟩) q.so.length sc) ∧ W.cell? ⟨sb, q.ci c, none⟩ = some (.slice (some ⟨r, 0, none⟩) s.length rc) ∧ W.cell? ⟨r, q.ck c, none⟩ = some (.int .i64 x) ∧ o r = .row i (q.ci c) ∧ Row W r s ∧ q.ci c < q.so.length ∧ q.ck c < s.length) := Lib.hid (fun W a h => h.num HP.out)
  generalize q.ci c = ni at K1 KN
  generalize q.ck c = nk at K1 KN
  clear hS hS' hq hc hP
  go_enter Tryz.func79, Tryz.ntmps79
  go_upto_region 1 with fail
  generalize w.alloc (.cells #[.string i.car, .int .i64 i.num, .int .i64 i.day, .string i.frm] lidT) = w5 at *
  go_upto_region 2 with (go_at_call 58; refine (K1.out _ HS.out).mono ?_; rintro e w6 ⟨a, rfl, ha, hb6⟩)
  obtain ⟨sb, sc, r, rc, d2, d3, d4, _, _, d5, d6⟩ := KN.out _ _ ha
  have i1 : (0 : Int) ≤ (ni : Int) := by omega
  have i2 : (ni : Int) < (q.so.length : Int) := by omega
  have i3 : (0 : Int) ≤ (nk : Int) := by omega
  have i4 : (nk : Int) < (s.length : Int) := by omega
  clear ha d5 d6
  go_wp2
  go_ret
  exact ⟨rfl, hbA.trans (hb6.mono hbA.size)⟩
end Go.Proofs.YtkghpapbifijcaaGreatDoor
