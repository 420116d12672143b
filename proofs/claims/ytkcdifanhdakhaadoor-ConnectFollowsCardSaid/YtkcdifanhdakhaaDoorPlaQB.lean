/- Walk of the reference's distance. -/
import Derived.Test.YtkcdifanhdakhaaDoorPlaQA
namespace Go.Proofs.YtkcdifanhdakhaaDoor
open Go.RowKit Go.Shelf
set_option linter.unusedSimpArgs false
set_option linter.unusedVariables false

theorem town_any (l : List Air) (s : ByteArray) : (findT l s).isSome = l.any fun b => decide (b.city = s) := by
  have e : (fun b : Air => decide (b.city = s)) = fun b => eqS b.city s := by
    funext b
    unfold eqS
    rw [eqB]
  rw [e]
  unfold findT
  rw [Bool.eq_iff_iff, List.find?_isSome, List.any_eq_true]

set_option maxRecDepth 100000 in
set_option maxHeartbeats 8000000 in
theorem rdistance_any (p : PV) (i : Nat) (d : Dst) (w : World) (hp : OkP p) (hL : PlL w p) (hi : p.ds[i]? = some d) :
    Calls Tryd.prog 25 #[encP p, .int .i64 (i : Int)] w fun e w' => ∃ v', e = .returned v' ∧ EOwn w.heap.size w' v' (okE (dstE p.l (p.ds.take i) d)) ∧ Below w.heap.size w w' := by
  obtain ⟨A, ca, l, D, cd, ds⟩ := p
  obtain ⟨hA, hD, hla, hld⟩ := hp
  obtain ⟨hLa, hLd⟩ := hL
  dsimp only at *
  have hil := (List.getElem?_eq_some_iff.1 hi).1
  obtain ⟨bb, off, d', rfl, hgl, hka, hd⟩ := hLd.at hil
  rw [hi] at hka
  obtain rfl := Option.some.inj hka
  have hb1 := bel_alloc w (.cells #[.slice A l.length ca, .slice (some ⟨bb, off, none⟩) ds.length cd] placesT)
  have hb2 := bel_alloc (w.alloc (.cells #[.slice A l.length ca, .slice (some ⟨bb, off, none⟩) ds.length cd] placesT)) (.cells #[.string d.f, .string d.t, .int .i64 d.m] dstT)
  have p0 := bel_cell hb2 ((cells_new w #[.slice A l.length ca, .slice (some ⟨bb, off, none⟩) ds.length cd] placesT 0).trans (show _ = some _ from rfl))
  have p1 := bel_cell hb2 ((cells_new w #[.slice A l.length ca, .slice (some ⟨bb, off, none⟩) ds.length cd] placesT 1).trans (show _ = some _ from rfl))
  have q0 := (cells_new (w.alloc (.cells #[.slice A l.length ca, .slice (some ⟨bb, off, none⟩) ds.length cd] placesT)) #[.string d.f, .string d.t, .int .i64 d.m] dstT 0).trans (show _ = some _ from rfl)
  have q1 := (cells_new (w.alloc (.cells #[.slice A l.length ca, .slice (some ⟨bb, off, none⟩) ds.length cd] placesT)) #[.string d.f, .string d.t, .int .i64 d.m] dstT 1).trans (show _ = some _ from rfl)
  have q2 := (cells_new (w.alloc (.cells #[.slice A l.length ca, .slice (some ⟨bb, off, none⟩) ds.length cd] placesT)) #[.string d.f, .string d.t, .int .i64 d.m] dstT 2).trans (show _ = some _ from rfl)
  rw [World.size_alloc] at q0 q1 q2
  have hb0 := hb1.trans (hb2.mono hb1.size)
  have hLa5 := hLa.more hb0
  have hLd5 := hLd.more hb0
  have hBw := hb0.size
  have i1 : (i : Int) < (ds.length : Int) := by omega
  obtain ⟨a0, a1, a2⟩ := hd
  have HAE : Hid (dstE l (ds.take i) d = [if l.any (fun b => decide (b.city = d.f)) && l.any (fun b => decide (b.city = d.t)) then 0 else 14, if (ds.take i).any (fun x => (decide (x.f = d.f) && decide (x.t = d.t)) || (decide (x.f = d.t) && decide (x.t = d.f))) then 6 else 0, if useB d && !decide (d.f = d.t) then 0 else 2]) := Lib.hid rfl
  go_enter Tryd.func25, Tryd.ntmps25
  go_upto_region 3 with fail
  clear a0 a1 a2 hLa hLd hgl hb1 hb2
  generalize hw5 : (w.alloc (.cells #[.slice A l.length ca, .slice (some ⟨bb, off, none⟩) ds.length cd] placesT)).alloc (.cells #[.string d.f, .string d.t, .int .i64 d.m] dstT) = w5 at *
  clear hw5
  have f0 := bel_get p0
  have f1 := bel_get p1
  have g0 := bel_get q0
  have g1 := bel_get q1
  have g2 := bel_get q2
  have KT : Hid (∀ s W, SW w5 W → Calls Tryd.prog 49 #[.agg #[.slice A l.length ca, .slice (some ⟨bb, off, none⟩) ds.length cd], .string s] W fun e w' => ∃ y : Air, e = .returned (.tuple #[.agg #[.string y.code, .string y.city, .string y.land, .int .i64 y.off, .slice y.A y.shs.length y.c], .bool (l.any fun b => decide (b.city = s))]) ∧ SW w5 w') :=
    Lib.hid (fun s W hW => (rtown_any ⟨A, ca, l, some ⟨bb, off, none⟩, cd, ds⟩ s W hla (hLa5.more hW)).mono (by rintro e w' ⟨rfl, hb⟩; exact ⟨(findT l s).getD airZ, by rw [← town_any], Below.trans hW (hb.mono hW.size)⟩))
  have hS0 : SW w5 w5 := Below.refl _ _
  have HU2 := Lib.hid (fun W => rusable_any d W)
  have HED := Lib.hid (eqB d.f d.t)
  rw [← HED.out] at HAE
  obtain ⟨kf, hkf⟩ : ∃ b, b = (l.any fun b => decide (b.city = d.f)) := ⟨_, rfl⟩
  obtain ⟨kt, hkt⟩ : ∃ b, b = (l.any fun b => decide (b.city = d.t)) := ⟨_, rfl⟩
  have KF := KT.out d.f
  have KG := KT.out d.t
  rw [← hkf] at KF HAE
  rw [← hkt] at KG HAE
  have KF := Lib.hid KF
  have KG := Lib.hid KG
  generalize useB d = us at *
  clear hLa5 hi KT hkf hkt hla
  have z0 := f0 _ hS0
  have z1 := f1 _ hS0
  have z2 := g0 _ hS0
  have z3 := g1 _ hS0
  go_upto_region 5 with (first
    | (go_at_call 49; refine (KG.out _ hS2).mono ?_; rintro e w3 ⟨y3, rfl, hS3⟩; have hS4 := Below.alloc hS3 hS3.size (.cells #[.string y3.code, .string y3.city, .string y3.land, .int .i64 y3.off, .slice y3.A y3.shs.length y3.c] airT))
    | (go_at_call 49; refine (KF.out _ hS0).mono ?_; rintro e w1 ⟨y1, rfl, hS1⟩; have hS2 : SW w5 (w1.alloc (.cells #[.string y1.code, .string y1.city, .string y1.land, .int .i64 y1.off, .slice y1.A y1.shs.length y1.c] airT)) := Below.alloc hS1 hS1.size _; have z0 := f0 _ hS2; have z1 := f1 _ hS2; have z2 := g0 _ hS2; have z3 := g1 _ hS2))
  have hS4 : SW w5 (w3.alloc (.cells #[.string y3.code, .string y3.city, .string y3.land, .int .i64 y3.off, .slice y3.A y3.shs.length y3.c] airT)) := Below.alloc hS3 hS3.size _
  generalize w3.alloc (.cells #[.string y3.code, .string y3.city, .string y3.land, .int .i64 y3.off, .slice y3.A y3.shs.length y3.c] airT) = w6 at *
  clear KF KG z0 z1 z2 z3
  go_cut [38] from 33 (fun v wx => v = .bool (!(kf && kt)) ∧ wx = w6)
  case first =>
    cases kf
    · go_wp2
      go_meet
      exact ⟨rfl, rfl⟩
    · go_wp2
      go_meet
      exact ⟨by cases kt <;> rfl, rfl⟩
  case rest =>
  obtain ⟨rfl, hwc⟩ := hcut
  obtain rfl := hwc.symm
  go_upto_if 38 with fail
  go_cut [5] from 33 (fun v wx => Hid (EOwn w5.heap.size wx v (okE [if (kf && kt) = true then 0 else 14]) ∧ SW w5 wx))
  case first =>
    cases hkk : (kf && kt) with
    | false =>
      have hN : EOwn w5.heap.size w6 (.slice none 0 0) [] := ROwn.nil hS4.size
      go_wp2_with (at_builtin; refine wpList_rapp rtE rfl _ _ rfl hN rfl (bel_alloc _ _) _ 14 _ rfl (cs := #[.int .i64 14]) rfl (heap_alloc_new _ _) (by simp) ?_; intro v' w' hO hC)
      go_meet
      exact Lib.hid ⟨by rw [hkk]; exact hO, Below.trans hS4 ((hC.below hN).mono (Nat.le_refl _))⟩
    | true =>
      go_wp2
      go_meet
      exact Lib.hid ⟨by rw [hkk]; exact ROwn.nil hS4.size, hS4⟩
  case rest =>
    have HC := Lib.hid hcut.out.1
    have hS9 : SW w5 wc := hcut.out.2
    generalize (if (kf && kt) = true then (0 : Int) else 14) = x0 at *
    clear hcut hS4
    go_wp2
    go_loopw [11, 12] (fun v7 vi wr => ∃ (k : Nat) (tw : Bool), k ≤ i ∧ vi = .int .i64 k ∧ v7 = .bool tw ∧ Hid (tw = (ds.take k).any (fun x => (decide (x.f = d.f) && decide (x.t = d.t)) || (decide (x.f = d.t) && decide (x.t = d.f)))) ∧ SW wc wr) (fun _ vi _ => i - (intOf vi).toNat)
    case atStart => exact ⟨0, false, Nat.zero_le _, rfl, rfl, Lib.hid rfl, Below.refl _ _⟩
    case round =>
      obtain ⟨k, tw, hk, rfl, rfl, HT, hS⟩ := hrel
      have hSr : SW w5 wr := Below.trans hS9 (Below.mono hS hS9.size)
      by_cases hlt : k < i
      · obtain ⟨bb', off', x, e, hgl', hkx, hx⟩ := (hLd5.more hSr).at (show k < ds.length by omega)
        cases e
        have HT2 := Lib.hid (any_take (fun x => (decide (x.f = d.f) && decide (x.t = d.t)) || (decide (x.f = d.t) && decide (x.t = d.f))) ds k x hkx)
        have i2 : (k : Int) < (i : Int) := by omega
        have i3 : (k : Int) < (ds.length : Int) := by omega
        have e1 := eqB x.f d.f
        have e2 := eqB x.t d.t
        have e3 := eqB x.f d.t
        have e4 := eqB x.t d.f
        obtain ⟨c0, c1, c2⟩ := hx
        have z0 := f0 _ hSr
        have z1 := f1 _ hSr
        have hSx : SW w5 (wr.alloc (.cells #[.string x.f, .string x.t, .int .i64 x.m] dstT)) := Below.alloc hSr hSr.size _
        have z2 := g0 _ hSx
        have z3 := g1 _ hSx
        have hSy : SW wc (wr.alloc (.cells #[.string x.f, .string x.t, .int .i64 x.m] dstT)) := Below.alloc hS hS.size _
        clear hkx hgl'
        cases tw with
        | true =>
          have HT3 : Hid (true = (ds.take (k + 1)).any (fun x => (decide (x.f = d.f) && decide (x.t = d.t)) || (decide (x.f = d.t) && decide (x.t = d.f)))) := Lib.hid (by rw [HT2.out, ← HT.out, ← e1, ← e2, ← e3, ← e4]; simp)
          clear HT2 e1 e2 e3 e4
          go_wp2
          go_roundw
          case rel => exact ⟨k + 1, true, by omega, by go_num, rfl, HT3, hSy⟩
          case measure => simp [intOf]; omega
        | false =>
          cases hff : (x.f.toList == d.f.toList) with
          | true =>
            cases htt : (x.t.toList == d.t.toList) with
            | true =>
              have HT3 : Hid (true = (ds.take (k + 1)).any (fun x => (decide (x.f = d.f) && decide (x.t = d.t)) || (decide (x.f = d.t) && decide (x.t = d.f)))) := Lib.hid (by rw [HT2.out, ← HT.out, ← e1, ← e2, ← e3, ← e4, hff, htt]; simp)
              clear HT2 e1 e2 e3 e4
              go_wp2
              go_roundw
              case rel => exact ⟨k + 1, true, by omega, by go_num, rfl, HT3, hSy⟩
              case measure => simp [intOf]; omega
            | false =>
              cases hft : (x.f.toList == d.t.toList) with
              | true =>
                have HT3 : Hid ((x.t.toList == d.f.toList) = (ds.take (k + 1)).any (fun x => (decide (x.f = d.f) && decide (x.t = d.t)) || (decide (x.f = d.t) && decide (x.t = d.f)))) := Lib.hid (by rw [HT2.out, ← HT.out, ← e1, ← e2, ← e3, ← e4, hff, htt, hft]; simp)
                clear HT2 e1 e2 e3 e4
                go_wp2
                go_roundw
                case rel => exact ⟨k + 1, (x.t.toList == d.f.toList), by omega, by go_num, rfl, HT3, hSy⟩
                case measure => simp [intOf]; omega
              | false =>
                have HT3 : Hid (false = (ds.take (k + 1)).any (fun x => (decide (x.f = d.f) && decide (x.t = d.t)) || (decide (x.f = d.t) && decide (x.t = d.f)))) := Lib.hid (by rw [HT2.out, ← HT.out, ← e1, ← e2, ← e3, ← e4, hff, htt, hft]; simp)
                clear HT2 e1 e2 e3 e4
                go_wp2
                go_roundw
                case rel => exact ⟨k + 1, false, by omega, by go_num, rfl, HT3, hSy⟩
                case measure => simp [intOf]; omega
          | false =>
            cases hft : (x.f.toList == d.t.toList) with
            | true =>
              have HT3 : Hid ((x.t.toList == d.f.toList) = (ds.take (k + 1)).any (fun x => (decide (x.f = d.f) && decide (x.t = d.t)) || (decide (x.f = d.t) && decide (x.t = d.f)))) := Lib.hid (by rw [HT2.out, ← HT.out, ← e1, ← e2, ← e3, ← e4, hff, hft]; simp)
              clear HT2 e1 e2 e3 e4
              go_wp2
              go_roundw
              case rel => exact ⟨k + 1, (x.t.toList == d.f.toList), by omega, by go_num, rfl, HT3, hSy⟩
              case measure => simp [intOf]; omega
            | false =>
              have HT3 : Hid (false = (ds.take (k + 1)).any (fun x => (decide (x.f = d.f) && decide (x.t = d.t)) || (decide (x.f = d.t) && decide (x.t = d.f)))) := Lib.hid (by rw [HT2.out, ← HT.out, ← e1, ← e2, ← e3, ← e4, hff, hft]; simp)
              clear HT2 e1 e2 e3 e4
              go_wp2
              go_roundw
              case rel => exact ⟨k + 1, false, by omega, by go_num, rfl, HT3, hSy⟩
              case measure => simp [intOf]; omega
      · have hki : k = i := by omega
        subst hki
        have hO := HC.out.more hS
        have HLn : Hid ((okE [x0]).length ≤ 1) := Lib.hid (by unfold okE; exact List.length_filter_le _ _)
        rw [← HT.out] at HAE
        have z2 := g0 _ hSr
        have z3 := g1 _ hSr
        have z4 := g2 _ hSr
        clear HT HC hLd5 hS9
        have HE3 : Hid (okE (dstE l (ds.take k) d) = okE [x0] ++ okE [if tw = true then 6 else 0] ++ okE [if (us && !(d.f.toList == d.t.toList)) = true then 0 else 2]) := Lib.hid (by rw [HAE.out, ← okE_app, ← okE_app]; rfl)
        clear HAE
        cases tw with
        | true =>
          cases us with
          | false =>
            have HF : Hid (okE (dstE l (ds.take k) d) = okE [x0] ++ [6] ++ [2]) := Lib.hid (by rw [HE3.out]; simp [okE])
            clear HE3
            go_wp2_with (first | (at_builtin; refine wpList_rapp rtE rfl _ _ rfl hOu rfl (bel_alloc _ _) _ (2 : Int) _ rfl (cs := #[.int .i64 2]) rfl (heap_alloc_new _ _) (by have := HLn.out; (try simp only [List.length_append, List.length_cons, List.length_nil]); omega) ?_; intro vb wb hOb hCb; have hSb : SW w5 wb := Below.trans hSu ((hCb.below hOu).mono (Nat.le_refl _))) | (go_at_call 50; refine (HU2.out _).mono ?_; rintro e wu ⟨rfl, hbu⟩; have hOu := hOa.more hbu; have hSu : SW w5 wu := Below.trans hSa (Below.mono hbu hSa.size); have z2 := g0 _ hSu; have z3 := g1 _ hSu) | (at_builtin; refine wpList_rapp rtE rfl _ _ rfl hO rfl (bel_alloc _ _) _ (6 : Int) _ rfl (cs := #[.int .i64 6]) rfl (heap_alloc_new _ _) (by have := HLn.out; omega) ?_; intro va wa hOa hCa; have hSa : SW w5 wa := Below.trans hSr ((hCa.below hO).mono (Nat.le_refl _)); have z2 := g0 _ hSa; have z3 := g1 _ hSa; have z4 := g2 _ hSa))
            go_ret
            exact ⟨_, rfl, ⟨by rw [HF.out]; exact hOb.own.mono hBw, Nat.le_trans hBw hSb.size⟩, hb0.trans (Below.mono hSb hBw)⟩
          | true =>
            cases hfe : (d.f.toList == d.t.toList) with
            | true =>
              have HF : Hid (okE (dstE l (ds.take k) d) = okE [x0] ++ [6] ++ [2]) := Lib.hid (by rw [HE3.out, hfe]; simp [okE])
              clear HE3
              go_wp2_with (first | (at_builtin; refine wpList_rapp rtE rfl _ _ rfl hOu rfl (bel_alloc _ _) _ (2 : Int) _ rfl (cs := #[.int .i64 2]) rfl (heap_alloc_new _ _) (by have := HLn.out; (try simp only [List.length_append, List.length_cons, List.length_nil]); omega) ?_; intro vb wb hOb hCb; have hSb : SW w5 wb := Below.trans hSu ((hCb.below hOu).mono (Nat.le_refl _))) | (go_at_call 50; refine (HU2.out _).mono ?_; rintro e wu ⟨rfl, hbu⟩; have hOu := hOa.more hbu; have hSu : SW w5 wu := Below.trans hSa (Below.mono hbu hSa.size); have z2 := g0 _ hSu; have z3 := g1 _ hSu) | (at_builtin; refine wpList_rapp rtE rfl _ _ rfl hO rfl (bel_alloc _ _) _ (6 : Int) _ rfl (cs := #[.int .i64 6]) rfl (heap_alloc_new _ _) (by have := HLn.out; omega) ?_; intro va wa hOa hCa; have hSa : SW w5 wa := Below.trans hSr ((hCa.below hO).mono (Nat.le_refl _)); have z2 := g0 _ hSa; have z3 := g1 _ hSa; have z4 := g2 _ hSa))
              go_ret
              exact ⟨_, rfl, ⟨by rw [HF.out]; exact hOb.own.mono hBw, Nat.le_trans hBw hSb.size⟩, hb0.trans (Below.mono hSb hBw)⟩
            | false =>
              have HF : Hid (okE (dstE l (ds.take k) d) = okE [x0] ++ [6]) := Lib.hid (by rw [HE3.out, hfe]; simp [okE])
              clear HE3
              go_wp2_with (first | (go_at_call 50; refine (HU2.out _).mono ?_; rintro e wu ⟨rfl, hbu⟩; have hOu := hOa.more hbu; have hSu : SW w5 wu := Below.trans hSa (Below.mono hbu hSa.size); have z2 := g0 _ hSu; have z3 := g1 _ hSu) | (at_builtin; refine wpList_rapp rtE rfl _ _ rfl hO rfl (bel_alloc _ _) _ (6 : Int) _ rfl (cs := #[.int .i64 6]) rfl (heap_alloc_new _ _) (by have := HLn.out; omega) ?_; intro va wa hOa hCa; have hSa : SW w5 wa := Below.trans hSr ((hCa.below hO).mono (Nat.le_refl _)); have z2 := g0 _ hSa; have z3 := g1 _ hSa; have z4 := g2 _ hSa))
              go_ret
              exact ⟨_, rfl, ⟨by rw [HF.out]; exact hOu.own.mono hBw, Nat.le_trans hBw hSu.size⟩, hb0.trans (Below.mono hSu hBw)⟩
        | false =>
          cases us with
          | false =>
            have HF : Hid (okE (dstE l (ds.take k) d) = okE [x0] ++ [2]) := Lib.hid (by rw [HE3.out]; simp [okE])
            clear HE3
            go_wp2_with (first | (at_builtin; refine wpList_rapp rtE rfl _ _ rfl hOu rfl (bel_alloc _ _) _ (2 : Int) _ rfl (cs := #[.int .i64 2]) rfl (heap_alloc_new _ _) (by have := HLn.out; (try simp only [List.length_append, List.length_cons, List.length_nil]); omega) ?_; intro vb wb hOb hCb; have hSb : SW w5 wb := Below.trans hSu ((hCb.below hOu).mono (Nat.le_refl _))) | (go_at_call 50; refine (HU2.out _).mono ?_; rintro e wu ⟨rfl, hbu⟩; have hOu := hO.more hbu; have hSu : SW w5 wu := Below.trans hSr (Below.mono hbu hSr.size); have z2 := g0 _ hSu; have z3 := g1 _ hSu))
            go_ret
            exact ⟨_, rfl, ⟨by rw [HF.out]; exact hOb.own.mono hBw, Nat.le_trans hBw hSb.size⟩, hb0.trans (Below.mono hSb hBw)⟩
          | true =>
            cases hfe : (d.f.toList == d.t.toList) with
            | true =>
              have HF : Hid (okE (dstE l (ds.take k) d) = okE [x0] ++ [2]) := Lib.hid (by rw [HE3.out, hfe]; simp [okE])
              clear HE3
              go_wp2_with (first | (at_builtin; refine wpList_rapp rtE rfl _ _ rfl hOu rfl (bel_alloc _ _) _ (2 : Int) _ rfl (cs := #[.int .i64 2]) rfl (heap_alloc_new _ _) (by have := HLn.out; (try simp only [List.length_append, List.length_cons, List.length_nil]); omega) ?_; intro vb wb hOb hCb; have hSb : SW w5 wb := Below.trans hSu ((hCb.below hOu).mono (Nat.le_refl _))) | (go_at_call 50; refine (HU2.out _).mono ?_; rintro e wu ⟨rfl, hbu⟩; have hOu := hO.more hbu; have hSu : SW w5 wu := Below.trans hSr (Below.mono hbu hSr.size); have z2 := g0 _ hSu; have z3 := g1 _ hSu))
              go_ret
              exact ⟨_, rfl, ⟨by rw [HF.out]; exact hOb.own.mono hBw, Nat.le_trans hBw hSb.size⟩, hb0.trans (Below.mono hSb hBw)⟩
            | false =>
              have HF : Hid (okE (dstE l (ds.take k) d) = okE [x0]) := Lib.hid (by rw [HE3.out, hfe]; simp [okE])
              clear HE3
              go_wp2_with (first | (go_at_call 50; refine (HU2.out _).mono ?_; rintro e wu ⟨rfl, hbu⟩; have hOu := hO.more hbu; have hSu : SW w5 wu := Below.trans hSr (Below.mono hbu hSr.size); have z2 := g0 _ hSu; have z3 := g1 _ hSu))
              go_ret
              exact ⟨_, rfl, ⟨by rw [HF.out]; exact hOu.own.mono hBw, Nat.le_trans hBw hSu.size⟩, hb0.trans (Below.mono hSu hBw)⟩

end Go.Proofs.YtkcdifanhdakhaaDoor
