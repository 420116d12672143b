/- The specification's Put: a new hold. -/
import Derived.Test.YthillkbcbklhaaaHldQD0
namespace Go.Proofs.Ythillkbcbklhaaa
open Go.RowKit Go.Shelf Go.Maps Go.MapKept
set_option linter.unusedSimpArgs false
set_option linter.unusedVariables false

set_option maxRecDepth 100000 in
set_option maxHeartbeats 16000000 in
theorem rput_none (B : Nat) (A : Option Addr) (c : Nat) (hs : List Hd) (hAe : A = none) (x : Hd) (w : World) (hl : hs.length ≤ 999) (h : RefAt w B A c hs) (hx : OkH x) (hxr : RowIn (fun k => k ≠ B) 4 encD w x.A x.l) (hrt : rgtH x = true) (hf : findH hs x.id = none) :
    Calls Try.prog 12 #[.pointer (some ⟨B, 0, none⟩), aggH x] w fun e w' => e = .returned (.int .i64 (putE hs x)) ∧ RefS w' B (putG hs x) ∧ But w w' (fun k => k = B) := by
  have hb := bel_alloc w (.cells #[.int .i64 x.id, .slice x.A x.l.length x.c, .string x.cls, .int .i64 x.cnt, .int .i64 x.til] rhT)
  have u0 := hd_cellsR w x 0 _ rfl
  have u1 := hd_cellsR w x 1 _ rfl
  have u2 := hd_cellsR w x 2 _ rfl
  have u3 := hd_cellsR w x 3 _ rfl
  have u4 := hd_cellsR w x 4 _ rfl
  have HS := Lib.hid h
  have HB := Lib.hid hb
  obtain ⟨w5, h5⟩ : ∃ w5, w5 = w.alloc (.cells #[.int .i64 x.id, .slice x.A x.l.length x.c, .string x.cls, .int .i64 x.cnt, .int .i64 x.til] rhT) := ⟨_, rfl⟩
  have HE5 := Lib.hid h5
  rw [← h5] at hb u0 u1 u2 u3 u4
  have KT : Hid (∀ W, SW w5 W → Calls Try.prog 28 #[.slice x.A x.l.length x.c] W fun e w' => e = .returned (.bool (twiP x.l)) ∧ SW w5 w') := Lib.hid (fun W hW => (twice_any x.A x.c x.l W hx.len ((hxr.rowL x.c).more (hb.trans (hW.mono hb.size)))).mono (by
    rintro e w' ⟨rfl, h3⟩
    exact ⟨rfl, hW.trans (h3.mono hW.size)⟩))
  have KM : Hid (∀ W, Calls Try.prog 29 #[.int .i64 x.til] W fun e w' => e = .returned (.bool (timB x.til)) ∧ w' = W) := Lib.hid (fun W => rtime_any x.til W)
  have KA : Hid (∀ W, SW w5 W → Calls Try.prog 30 #[.pointer (some ⟨B, 0, none⟩), .int .i64 x.id] W fun e w' => e = .returned (.int .i64 (atP hs x.id)) ∧ w' = W) := Lib.hid (fun W hW => at_any B A c hs x.id W (by omega) (h.more (hb.trans (hW.mono hb.size))))
  have HR : Hid (rgtH x = (decide (1 ≤ x.id) && decide (0 < x.l.length) && !twiP x.l && decide (1 ≤ x.cnt) && decide (x.cnt ≤ 99) && timB x.til)) := Lib.hid rfl
  have HX := Lib.hid hx
  have HXR := Lib.hid hxr
  have HL := Lib.hid hl
  have HW5 := Lib.hid hb
  have HBAD : Hid (rgtH x = false → ∀ W, SW w5 W → Ending.returned (.int .i64 2) = .returned (.int .i64 (putE hs x)) ∧ RefS W B (putG hs x) ∧ But w W (fun k => k = B)) := Lib.hid (fun hr W hW => by
    have e : putE hs x = 2 := by unfold putE; rw [if_pos hr]
    have hbW := HW5.out.trans (hW.mono HW5.out.size)
    unfold putG
    rw [e, if_neg (by decide)]
    exact ⟨rfl, ⟨A, c, HS.out.more hbW⟩, But.of_below hbW⟩)
  clear h hb hx hxr hl
  go_enter Try.func12, Try.ntmps12
  go_upto_region 1 with fail
  rw [← HE5.out]
  clear h5
  have hT : twiP x.l = false ∧ timB x.til = true ∧ 1 ≤ x.id ∧ 0 < x.l.length ∧ 1 ≤ x.cnt ∧ x.cnt ≤ 99 := by
    have h := hrt
    unfold rgtH at h
    simp only [Bool.and_eq_true, decide_eq_true_eq, Bool.not_eq_true'] at h
    obtain ⟨⟨⟨⟨⟨h1, h2⟩, h3⟩, h4⟩, h5⟩, h6⟩ := h
    exact ⟨h3, h6, h1, h2, h4, h5⟩
  obtain ⟨hT, hM, q0, q1, q2, q3⟩ := hT
  rw [hT] at KT
  rw [hM] at KM
  have HRT := Lib.hid hrt
  have c0 : decide (x.id < 1) = false := decide_eq_false (by omega)
  have g1 : ((x.l.length : Int) == 0) = false := by rw [beq_eq_false_iff_ne]; omega
  have c3 : decide (x.cnt < 1) = false := decide_eq_false (by omega)
  have c4 : decide (99 < x.cnt) = false := decide_eq_false (by omega)
  clear hrt q0 q1 q2 q3
  rw [at_none hf] at KA
  have HE : Hid (putE hs x = 0) := Lib.hid (by unfold putE; rw [if_neg (by rw [HRT.out]; decide), if_neg (by rw [hf]; decide)])
  have HG : Hid (putG hs x = insH x hs) := Lib.hid (by unfold putG; rw [HE.out, if_pos rfl])
  have HSI := Lib.hid (HS.out.srt.ins (find_no hf))
  have HU0 := Lib.hid u0
  have HU1 := Lib.hid u1
  have HU2 := Lib.hid u2
  have HU3 := Lib.hid u3
  have HU4 := Lib.hid u4
  go_upto_region 5 with (first | (go_at_call 30; (with_reducible refine (KA.out _ hS6).mono ?_); rintro e wa ⟨rfl, rfl⟩) | (go_at_call 28; (with_reducible refine (KT.out _ (Below.refl _ _)).mono ?_); rintro e w6 ⟨rfl, hS6⟩; have u0 := bel_cell hS6 u0; have u1 := bel_cell hS6 u1; have u2 := bel_cell hS6 u2; have u3 := bel_cell hS6 u3; have u4 := bel_cell hS6 u4) | (go_at_call 29; (with_reducible refine (KM.out _).mono ?_); rintro e wt ⟨rfl, rfl⟩))
  have HLT : Hid (∀ W, SW w5 W → RefAt W B A c hs) := Lib.hid (fun W hW => HS.out.more (HW5.out.trans (hW.mono HW5.out.size)))
  have f0 : ∀ W, SW w5 W → _ := fun W hW => bel_cell hW HU0.out
  have f1 : ∀ W, SW w5 W → _ := fun W hW => bel_cell hW HU1.out
  have f2 : ∀ W, SW w5 W → _ := fun W hW => bel_cell hW HU2.out
  have f3 : ∀ W, SW w5 W → _ := fun W hW => bel_cell hW HU3.out
  have f4 : ∀ W, SW w5 W → _ := fun W hW => bel_cell hW HU4.out
  have fB : ∀ W, SW w5 W → W.cell? ⟨B, 0, none⟩ = some (.slice A hs.length c) := fun W hW => (HLT.out W hW).box
  clear u0 u1 u2 u3 u4 c0 g1 hT c3 c4 hM hf
  subst hAe
  go_wp2
  go_loopw [5] (fun vi wr => ∃ k : Nat, k ≤ hs.length ∧ vi = .int .i64 k ∧ Hid (∀ (j : Nat) (y : Hd), j < k → hs[j]? = some y → ltH y x) ∧ SW w5 wr) (fun vi _ => hs.length - (intOf vi).toNat)
  case atStart => exact ⟨0, Nat.zero_le _, rfl, Lib.hid (fun j y hj => absurd hj (Nat.not_lt_zero _)), hS6⟩
  case round =>
    obtain ⟨k, hk, rfl, HK, hSr⟩ := hrel
    clear hS6
    have b0 := fB _ hSr
    have u0 := f0 _ hSr
    have u4 := f4 _ hSr
    have i1 : (0 : Int) ≤ (k : Int) := by omega
    have hk8 : k < 1000 := by have := HL.out; omega
    have wr1 : IntKind.i64.wrap ((k : Int) + 1) = (k : Int) + 1 := IntWalk.i64_in _ (by omega)
    have HSR := Lib.hid hSr
    have hlt : ¬ k < hs.length := by
      have := HS.out.rows
      rcases this with e | ⟨b, o, e, _⟩
      · rw [e]; simp
      · cases e
    have g0 : decide ((k : Int) < (hs.length : Int)) = false := decide_eq_false (by omega)
    have g0' : decide (k < hs.length) = false := decide_eq_false (by omega)
    have HNL : Hid (∀ z, hs[k]? = some z → ¬ ltH z x) := Lib.hid (fun z hz => by have := (List.getElem?_eq_some_iff.1 hz).1; omega)
    have HKE : Hid (k = hs.length) := Lib.hid (by omega)
    have hkc : (k : Int) ≤ (c : Int) := by have := HS.out.cap; omega
    clear hlt
    have HIN := Lib.hid (ins_at HK.out hk HNL.out)
    have HT : Hid (∀ W, SW w5 W → ∀ c2, RowL 5 encH W (.slice none k c2) (hs.take k)) := Lib.hid (fun W hW c2 => rowL_take hk ((HLT.out W hW).rows.rowL c))
    have HM1 : Hid (([] : List Hd).length + (hs.take k).length ≤ 100000000) := Lib.hid (by rw [List.length_take, List.length_nil]; have := HL.out; omega)
    have HM2 : Hid ((([] : List Hd) ++ hs.take k).length ≤ 100000000) := Lib.hid (by rw [List.nil_append, List.length_take]; have := HL.out; omega)
    have HM3 : Hid (((([] : List Hd) ++ hs.take k) ++ [x]).length + (hs.drop k).length ≤ 100000000) := Lib.hid (by rw [List.nil_append, List.length_append, List.length_take, List.length_drop, List.length_singleton]; have := HL.out; omega)
    have HD : Hid (∀ W A2 c2 n2, n2 = hs.length - k → RowL 5 encH W (.slice A2 n2 c2) (hs.drop k)) := Lib.hid (fun W A2 c2 n2 e => ⟨A2, c2, by rw [e, List.length_drop], .inl (List.drop_eq_nil_of_le (by have := HKE.out; omega))⟩)
    go_upto_region 6 with fail
    go_quiet (fail)
    have hS9 : Below w5.heap.size w5 (wr.drewN nq) := below_drewN HSR.out _
    generalize wr.drewN nq = w9 at *
    clear b0 u0 u4  hSr
    go_upto_region 9 with fail
    have hS : (fun (W : World) => Below w5.heap.size w5 W) _ := hS9.drew
    refine wp_region_held_drew (S := fun (W : World) => Below w5.heap.size w5 W) (by kernel_rfl) hS (fun _ => ?_)
    refine wpAnyH_take (i := 0) (v := ?vR0) rfl (by kernel_rfl) (by kernel_rfl) (by kernel_rfl) (fun _ _ _ h => h) (Or.inl ⟨by rfl, ?hyR0⟩) hS ?restR0
    case hyR0 =>
      intro w hSw
      first | (go_simp; done) | (go_simp; with_reducible rfl)
    try simp only [Act.put, List.getElem_toArray, List.getElem_cons_succ, List.getElem_cons_zero, List.setIfInBounds_toArray, List.set_cons_zero, List.set_cons_succ]
    refine wpAnyH_take (i := 1) (v := ?vR1) rfl (by kernel_rfl) (by kernel_rfl) (by kernel_rfl) (fun _ _ _ h => h) (Or.inl ⟨by rfl, ?hyR1⟩) hS ?restR1
    case hyR1 =>
      intro w hSw
      first | (go_simp; done) | (go_simp; with_reducible rfl)
    try simp only [Act.put, List.getElem_toArray, List.getElem_cons_succ, List.getElem_cons_zero, List.setIfInBounds_toArray, List.set_cons_zero, List.set_cons_succ]
    refine wpAnyH_take (i := 2) (v := ?vR2) rfl (by kernel_rfl) (by kernel_rfl) (by kernel_rfl) (fun _ _ _ h => h) (Or.inl ⟨by rfl, ?hyR2⟩) hS ?restR2
    case hyR2 =>
      intro w hSw
      first | (go_simp; done) | (go_simp; with_reducible rfl)
    try simp only [Act.put, List.getElem_toArray, List.getElem_cons_succ, List.getElem_cons_zero, List.setIfInBounds_toArray, List.set_cons_zero, List.set_cons_succ]
    refine wpAnyH_take (i := 3) (v := ?vR3) rfl (by kernel_rfl) (by kernel_rfl) (by kernel_rfl) (fun _ _ _ h => h) (Or.inl ⟨by rfl, ?hyR3⟩) hS ?restR3
    case hyR3 =>
      intro w hSw
      first | (go_simp; done) | (go_simp; with_reducible rfl)
    try simp only [Act.put, List.getElem_toArray, List.getElem_cons_succ, List.getElem_cons_zero, List.setIfInBounds_toArray, List.set_cons_zero, List.set_cons_succ]
    refine wpAnyH_take (i := 4) (v := ?vR4) rfl (by kernel_rfl) (by kernel_rfl) (by kernel_rfl) (fun _ _ _ h => h) (Or.inl ⟨by rfl, ?hyR4⟩) hS ?restR4
    case hyR4 =>
      intro w hSw
      have k0 := fB w hSw; have k1 := f0 w hSw; have k2 := f1 w hSw; have k3 := f2 w hSw; have k4 := f3 w hSw; have k5 := f4 w hSw
      first | (go_simp; done) | (go_simp; with_reducible rfl)
    try simp only [Act.put, List.getElem_toArray, List.getElem_cons_succ, List.getElem_cons_zero, List.setIfInBounds_toArray, List.set_cons_zero, List.set_cons_succ]
    refine wpAnyH_take (i := 5) (v := ?vR5) rfl (by kernel_rfl) (by kernel_rfl) (by kernel_rfl) (fun _ _ _ h => h) (Or.inl ⟨by rfl, ?hyR5⟩) hS ?restR5
    case hyR5 =>
      intro w hSw
      first | (go_simp; done) | (go_simp; with_reducible rfl)
    try simp only [Act.put, List.getElem_toArray, List.getElem_cons_succ, List.getElem_cons_zero, List.setIfInBounds_toArray, List.set_cons_zero, List.set_cons_succ]
    refine wpAnyH_take (i := 6) (v := ?vR6) rfl (by kernel_rfl) (by kernel_rfl) (by kernel_rfl) (fun _ _ _ h => h) (Or.inl ⟨by rfl, ?hyR6⟩) hS ?restR6
    case hyR6 =>
      intro w hSw
      first | (go_simp; done) | (go_simp; with_reducible rfl)
    try simp only [Act.put, List.getElem_toArray, List.getElem_cons_succ, List.getElem_cons_zero, List.setIfInBounds_toArray, List.set_cons_zero, List.set_cons_succ]
    refine wpAnyH_take (i := 8) (v := ?vR8) rfl (by kernel_rfl) (by kernel_rfl) (by kernel_rfl) (fun _ _ _ h => h) (Or.inl ⟨by rfl, ?hyR8⟩) hS ?restR8
    case hyR8 =>
      intro w hSw
      have k0 := fB w hSw; have k1 := f0 w hSw; have k2 := f1 w hSw; have k3 := f2 w hSw; have k4 := f3 w hSw; have k5 := f4 w hSw
      first | (go_simp; done) | (go_simp; with_reducible rfl)
    try simp only [Act.put, List.getElem_toArray, List.getElem_cons_succ, List.getElem_cons_zero, List.setIfInBounds_toArray, List.set_cons_zero, List.set_cons_succ]
    refine wpAnyH_ready (rs := [7, 9]) (by kernel_rfl) (by simp) ?_
    refine AllReadyH.cons rfl (fun K hK => ?_) (AllReadyH.cons rfl (fun K hK => ?_) AllReadyH.nil)
    · have hO0 := ROwn.nil (e := rhT) (sz := 5) (enc := encH) (B := w5.heap.size) hS.size
      refine step_rappl rowRH rfl _ _ rfl hO0 rfl (hs.take k) _ rfl (HT.out _ hS _) HM1.out ?_
      intro v1 w1 hO1 hC1
      go_simp
      have hS : Below w5.heap.size w5 w1 := hS.trans (hC1.below hO0)
      have hS1 := hS
      refine hK.out _ _ hS (fun _ => ?_)
      clear hK K
      try simp only [Act.put, List.getElem_toArray, List.getElem_cons_succ, List.getElem_cons_zero, List.setIfInBounds_toArray, List.set_cons_zero, List.set_cons_succ]
      refine wpAnyH_ready (rs := [9]) (by kernel_rfl) (by simp) ?_
      refine AllReadyH.cons rfl (fun K hK => ?_) AllReadyH.nil
      go_simp
      have hN := heap_alloc_new w1 (.cells #[.int .i64 x.id, .slice x.A x.l.length x.c, .string x.cls, .int .i64 x.cnt, .int .i64 x.til] rhT)
      have hW := bel_alloc w1 (.cells #[.int .i64 x.id, .slice x.A x.l.length x.c, .string x.cls, .int .i64 x.cnt, .int .i64 x.til] rhT)
      have hS : Below w5.heap.size w5 (w1.alloc (.cells #[.int .i64 x.id, .slice x.A x.l.length x.c, .string x.cls, .int .i64 x.cnt, .int .i64 x.til] rhT)) := hS.trans ((bel_alloc w1 (.cells #[.int .i64 x.id, .slice x.A x.l.length x.c, .string x.cls, .int .i64 x.cnt, .int .i64 x.til] rhT)).mono hS.size)
      refine hK.out _ _ hS (fun _ => ?_)
      clear hK K
      try simp only [Act.put, List.getElem_toArray, List.getElem_cons_succ, List.getElem_cons_zero, List.setIfInBounds_toArray, List.set_cons_zero, List.set_cons_succ]
      refine wpAnyH_ready (rs := [10]) (by kernel_rfl) (by simp) ?_
      refine AllReadyH.cons rfl (fun K hK => ?_) AllReadyH.nil
      refine step_rapp rowRH rfl _ _ rfl hO1 rfl hW _ x _ rfl (cs := #[.int .i64 x.id, .slice x.A x.l.length x.c, .string x.cls, .int .i64 x.cnt, .int .i64 x.til]) rfl hN HM2.out ?_
      intro v2 w2 hO2 hC2
      go_simp
      have hS : Below w5.heap.size w5 w2 := hS1.trans (hC2.below hO1)
      refine hK.out _ _ hS (fun _ => ?_)
      clear hK K
      try simp only [Act.put, List.getElem_toArray, List.getElem_cons_succ, List.getElem_cons_zero, List.setIfInBounds_toArray, List.set_cons_zero, List.set_cons_succ]
      refine wpAnyH_take (i := 11) (v := ?vRa11) rfl (by kernel_rfl) (by kernel_rfl) (by kernel_rfl) (fun _ _ _ h => h) (Or.inl ⟨by rfl, ?hyRa11⟩) hS ?restRa11
      case hyRa11 =>
        intro w hSw
        first | (go_simp; done) | (go_simp; with_reducible rfl)
      try simp only [Act.put, List.getElem_toArray, List.getElem_cons_succ, List.getElem_cons_zero, List.setIfInBounds_toArray, List.set_cons_zero, List.set_cons_succ]
      refine wpAnyH_done (by kernel_rfl) ?_ _
      try simp only [List.getElem_toArray, List.getElem_cons_succ, List.getElem_cons_zero, List.set_cons_zero, List.set_cons_succ]
      have HO7 := Lib.hid hO2
      have HS7 : Hid (Below w5.heap.size w5 w2) := Lib.hid hS
      have c7 := fB _ hS
      clear hO2 hO1 hC2 hC1 hO0 hN hW hS hS1 hS9
      go_upto_region 11 with (at_builtin; refine wpList_rappl rowRH rfl _ _ rfl HO7.out rfl (hs.drop k) _ rfl (HD.out _ _ _ _ (by have := HKE.out; omega)) HM3.out ?_; intro v8 w8 hO8 hC8; have HB8 := Lib.hid (Below.trans HS7.out (hC8.below HO7.out)); rw [List.nil_append, ← HIN.out] at hO8; obtain ⟨A2, n2, rfl, _⟩ := own_form hO8; have HO8 := Lib.hid hO8; have c8 := (HLT.out _ HB8.out).box; have z8 := (HLT.out _ HB8.out).froz; clear hO8 hC8)
      go_wp2
      go_ret
      obtain ⟨hF1, hF2⟩ := HS.out.to (w2 := w8) (w3 := w8.setCell ⟨B, 0, none⟩ (.slice A2 (insH x hs).length n2)) HO8.out HW5.out.size (HW5.out.trans (HB8.out.mono HW5.out.size)) (But.both (But.setCell w8 B 0 _) (But.refl _ (fun k => k = B)) (fun k e => .inl e) (fun k e => .inl e)) (heap_setCell_same w8 B 0 _ _ _ (HLT.out _ HB8.out).blk) HSI.out (fun y hy => by
        rcases (mem_ins hs).1 hy with rfl | hy
        · exact ⟨HX.out, HXR.out, HRT.out⟩
        · exact HS.out.ok y hy)
      exact ⟨by rw [HE.out]; rfl, by rw [HG.out]; exact hF1, hF2⟩
    · go_simp
      have hN := heap_alloc_new w9 (.cells #[.int .i64 x.id, .slice x.A x.l.length x.c, .string x.cls, .int .i64 x.cnt, .int .i64 x.til] rhT)
      have hS : Below w5.heap.size w5 (w9.drew.alloc (.cells #[.int .i64 x.id, .slice x.A x.l.length x.c, .string x.cls, .int .i64 x.cnt, .int .i64 x.til] rhT)) := hS.trans ((bel_alloc w9.drew (.cells #[.int .i64 x.id, .slice x.A x.l.length x.c, .string x.cls, .int .i64 x.cnt, .int .i64 x.til] rhT)).mono hS.size)
      refine hK.out _ _ hS (fun _ => ?_)
      clear hK K
      try simp only [Act.put, List.getElem_toArray, List.getElem_cons_succ, List.getElem_cons_zero, List.setIfInBounds_toArray, List.set_cons_zero, List.set_cons_succ]
      refine wpAnyH_ready (rs := [7]) (by kernel_rfl) (by simp) ?_
      refine AllReadyH.cons rfl (fun K hK => ?_) AllReadyH.nil
      have hO0 := ROwn.nil (e := rhT) (sz := 5) (enc := encH) (B := w5.heap.size) hS.size
      refine step_rappl rowRH rfl _ _ rfl hO0 rfl (hs.take k) _ rfl (HT.out _ hS _) HM1.out ?_
      intro v1 w1 hO1 hC1
      go_simp
      have hN : w1.heap[w9.heap.size]? = some (.cells #[.int .i64 x.id, .slice x.A x.l.length x.c, .string x.cls, .int .i64 x.cnt, .int .i64 x.til] rhT (0, 0)) := (hC1.but.block _ (by simp) (by intro e; cases e)).trans hN
      have hW := Below.refl w1.heap.size w1
      have hS : Below w5.heap.size w5 w1 := hS.trans (hC1.below hO0)
      have hS1 := hS
      refine hK.out _ _ hS (fun _ => ?_)
      clear hK K
      try simp only [Act.put, List.getElem_toArray, List.getElem_cons_succ, List.getElem_cons_zero, List.setIfInBounds_toArray, List.set_cons_zero, List.set_cons_succ]
      refine wpAnyH_ready (rs := [10]) (by kernel_rfl) (by simp) ?_
      refine AllReadyH.cons rfl (fun K hK => ?_) AllReadyH.nil
      refine step_rapp rowRH rfl _ _ rfl hO1 rfl hW _ x _ rfl (cs := #[.int .i64 x.id, .slice x.A x.l.length x.c, .string x.cls, .int .i64 x.cnt, .int .i64 x.til]) rfl hN HM2.out ?_
      intro v2 w2 hO2 hC2
      go_simp
      have hS : Below w5.heap.size w5 w2 := hS1.trans (hC2.below hO1)
      refine hK.out _ _ hS (fun _ => ?_)
      clear hK K
      try simp only [Act.put, List.getElem_toArray, List.getElem_cons_succ, List.getElem_cons_zero, List.setIfInBounds_toArray, List.set_cons_zero, List.set_cons_succ]
      refine wpAnyH_take (i := 11) (v := ?vRb11) rfl (by kernel_rfl) (by kernel_rfl) (by kernel_rfl) (fun _ _ _ h => h) (Or.inl ⟨by rfl, ?hyRb11⟩) hS ?restRb11
      case hyRb11 =>
        intro w hSw
        first | (go_simp; done) | (go_simp; with_reducible rfl)
      try simp only [Act.put, List.getElem_toArray, List.getElem_cons_succ, List.getElem_cons_zero, List.setIfInBounds_toArray, List.set_cons_zero, List.set_cons_succ]
      refine wpAnyH_done (by kernel_rfl) ?_ _
      try simp only [List.getElem_toArray, List.getElem_cons_succ, List.getElem_cons_zero, List.set_cons_zero, List.set_cons_succ]
      have HO7 := Lib.hid hO2
      have HS7 : Hid (Below w5.heap.size w5 w2) := Lib.hid hS
      have c7 := fB _ hS
      clear hO2 hO1 hC2 hC1 hO0 hN hW hS hS1 hS9
      go_upto_region 11 with (at_builtin; refine wpList_rappl rowRH rfl _ _ rfl HO7.out rfl (hs.drop k) _ rfl (HD.out _ _ _ _ (by have := HKE.out; omega)) HM3.out ?_; intro v8 w8 hO8 hC8; have HB8 := Lib.hid (Below.trans HS7.out (hC8.below HO7.out)); rw [List.nil_append, ← HIN.out] at hO8; obtain ⟨A2, n2, rfl, _⟩ := own_form hO8; have HO8 := Lib.hid hO8; have c8 := (HLT.out _ HB8.out).box; have z8 := (HLT.out _ HB8.out).froz; clear hO8 hC8)
      go_wp2
      go_ret
      obtain ⟨hF1, hF2⟩ := HS.out.to (w2 := w8) (w3 := w8.setCell ⟨B, 0, none⟩ (.slice A2 (insH x hs).length n2)) HO8.out HW5.out.size (HW5.out.trans (HB8.out.mono HW5.out.size)) (But.both (But.setCell w8 B 0 _) (But.refl _ (fun k => k = B)) (fun k e => .inl e) (fun k e => .inl e)) (heap_setCell_same w8 B 0 _ _ _ (HLT.out _ HB8.out).blk) HSI.out (fun y hy => by
        rcases (mem_ins hs).1 hy with rfl | hy
        · exact ⟨HX.out, HXR.out, HRT.out⟩
        · exact HS.out.ok y hy)
      exact ⟨by rw [HE.out]; rfl, by rw [HG.out]; exact hF1, hF2⟩
end Go.Proofs.Ythillkbcbklhaaa
