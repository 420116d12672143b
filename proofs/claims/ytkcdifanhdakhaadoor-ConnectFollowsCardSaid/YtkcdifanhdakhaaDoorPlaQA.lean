/- Walk of the reference's airport. -/
import Derived.Test.YtkcdifanhdakhaaDoorPlaZ
import Derived.Test.YtkcdifanhdakhaaDoorFltA
import Derived.Deep.CutRange
import Derived.Deep.Onto
namespace Go.Proofs.YtkcdifanhdakhaaDoor
open Go.RowKit Go.Shelf
set_option linter.unusedSimpArgs false
set_option linter.unusedVariables false

abbrev errnT : TypeId := 29
def encE (x : Int) : List Value := [.int .i64 x]
theorem rtE : RT Tryd.prog 71 errnT 1 encE where
  ht := Tryd.underlying71
  info := ⟨.int .i64 0, 8, by kernel_rfl, rfl, by omega⟩
  len x := rfl
  one x u hu := by simp [encE] at hu; subst hu; rfl
  pos := by omega
abbrev EOwn (B : Nat) (w : World) (v : Value) (l : List Int) : Prop := ROwn errnT 1 encE B w v l
theorem rairp_any (s : ByteArray) (w : World) (hs : s.size ≤ maxLen) : Calls Tryd.prog 45 #[.string s] w fun e w' => e = .returned (.bool (capsB s 3)) ∧ w = w' := by
  go_enter Tryd.func45, Tryd.ntmps45
  go_wp2_with (go_at_call 68; refine (letters_any _ _ _ hs).mono ?_; rintro e w' ⟨rfl, rfl⟩)
  go_ret
  exact ⟨rfl, rfl⟩
theorem rland_any (s : ByteArray) (w : World) (hs : s.size ≤ maxLen) : Calls Tryd.prog 46 #[.string s] w fun e w' => e = .returned (.bool (capsB s 2)) ∧ w = w' := by
  go_enter Tryd.func46, Tryd.ntmps46
  go_wp2_with (go_at_call 68; refine (letters_any _ _ _ hs).mono ?_; rintro e w' ⟨rfl, rfl⟩)
  go_ret
  exact ⟨rfl, rfl⟩
theorem okE_app (a b : List Int) : okE (a ++ b) = okE a ++ okE b := by simp [okE]
theorem okE_one (e : Int) (h : e ≠ 0) : okE [e] = [e] := by simp [okE, h]
theorem any_take {α : Type} (q : α → Bool) (l : List α) (k : Nat) (a : α) (h : l[k]? = some a) : (l.take (k + 1)).any q = ((l.take k).any q || q a) := by
  rw [List.take_add_one, h, List.any_append]
  simp
theorem eqB (a b : ByteArray) : (a.toList == b.toList) = decide (a = b) := by
  by_cases h : a = b
  · subst h; simp
  · rw [decide_eq_false h]
    cases hh : (a.toList == b.toList) with
    | false => rfl
    | true => exact absurd ((eqS_iff a b).1 hh) h

set_option maxRecDepth 100000 in
set_option maxHeartbeats 8000000 in
theorem rairport_any (p : PV) (i : Nat) (a : Air) (w : World) (hp : OkP p) (hL : PlL w p) (hi : p.l[i]? = some a) :
    Calls Tryd.prog 23 #[encP p, .int .i64 (i : Int)] w fun e w' => ∃ v', e = .returned v' ∧ EOwn w.heap.size w' v' (okE (airE (p.l.take i) a)) ∧ Below w.heap.size w w' := by
  obtain ⟨A, ca, l, D, cd, ds⟩ := p
  obtain ⟨hA, hD, hla, hld⟩ := hp
  obtain ⟨hLa, hLd⟩ := hL
  dsimp only at *
  have hil := (List.getElem?_eq_some_iff.1 hi).1
  obtain ⟨bb, off, a', rfl, hgl, hka, ha⟩ := hLa.at hil
  rw [hi] at hka
  obtain rfl := Option.some.inj hka
  obtain ⟨s1, s2, s3, s4, s5⟩ := hA a (List.mem_of_getElem? hi)
  have hb1 := bel_alloc w (.cells #[.slice (some ⟨bb, off, none⟩) l.length ca, .slice D ds.length cd] placesT)
  have hb2 := bel_alloc (w.alloc (.cells #[.slice (some ⟨bb, off, none⟩) l.length ca, .slice D ds.length cd] placesT)) (.cells #[.string a.code, .string a.city, .string a.land, .int .i64 a.off, .slice a.A a.shs.length a.c] airT)
  have p0 := bel_cell hb2 ((cells_new w #[.slice (some ⟨bb, off, none⟩) l.length ca, .slice D ds.length cd] placesT 0).trans (show _ = some _ from rfl))
  have p1 := bel_cell hb2 ((cells_new w #[.slice (some ⟨bb, off, none⟩) l.length ca, .slice D ds.length cd] placesT 1).trans (show _ = some _ from rfl))
  have q0 := (cells_new (w.alloc (.cells #[.slice (some ⟨bb, off, none⟩) l.length ca, .slice D ds.length cd] placesT)) #[.string a.code, .string a.city, .string a.land, .int .i64 a.off, .slice a.A a.shs.length a.c] airT 0).trans (show _ = some _ from rfl)
  have q1 := (cells_new (w.alloc (.cells #[.slice (some ⟨bb, off, none⟩) l.length ca, .slice D ds.length cd] placesT)) #[.string a.code, .string a.city, .string a.land, .int .i64 a.off, .slice a.A a.shs.length a.c] airT 1).trans (show _ = some _ from rfl)
  have q2 := (cells_new (w.alloc (.cells #[.slice (some ⟨bb, off, none⟩) l.length ca, .slice D ds.length cd] placesT)) #[.string a.code, .string a.city, .string a.land, .int .i64 a.off, .slice a.A a.shs.length a.c] airT 2).trans (show _ = some _ from rfl)
  have q3 := (cells_new (w.alloc (.cells #[.slice (some ⟨bb, off, none⟩) l.length ca, .slice D ds.length cd] placesT)) #[.string a.code, .string a.city, .string a.land, .int .i64 a.off, .slice a.A a.shs.length a.c] airT 3).trans (show _ = some _ from rfl)
  have q4 := (cells_new (w.alloc (.cells #[.slice (some ⟨bb, off, none⟩) l.length ca, .slice D ds.length cd] placesT)) #[.string a.code, .string a.city, .string a.land, .int .i64 a.off, .slice a.A a.shs.length a.c] airT 4).trans (show _ = some _ from rfl)
  rw [World.size_alloc] at q0 q1 q2 q3 q4
  have hb0 := hb1.trans (hb2.mono hb1.size)
  have hLa5 := hLa.more hb0
  have hsh5 := ha.sh.more hb0
  have i1 : (i : Int) < (l.length : Int) := by omega
  have C1 := Lib.hid (fun w => rairp_any a.code w s1)
  have C2 := Lib.hid (fun w => rairp_any a.city w s2)
  have C3 := Lib.hid (fun w => rland_any a.land w s3)
  have HB : Hid (codesB a = (capsB a.code 3 && capsB a.city 3 && capsB a.land 2)) := Lib.hid rfl
  have HAE : Hid (airE (l.take i) a = [if codesB a then 0 else 5, if (l.take i).any (fun b => decide (b.code = a.code)) then 6 else 0, if (l.take i).any (fun b => decide (b.city = a.city) && !decide (b.land = a.land)) then 8 else 0, errZ a.off a.shs]) := Lib.hid rfl
  obtain ⟨a0, a1, a2, a3, a4, ash⟩ := ha
  go_enter Tryd.func23, Tryd.ntmps23
  go_upto_region 3 with fail
  clear a0 a1 a2 a3 a4 ash hLa hLd hgl hb1 hb2
  generalize hw5 : (w.alloc (.cells #[.slice (some ⟨bb, off, none⟩) l.length ca, .slice D ds.length cd] placesT)).alloc (.cells #[.string a.code, .string a.city, .string a.land, .int .i64 a.off, .slice a.A a.shs.length a.c] airT) = w5 at *
  clear hw5
  go_cut [31] from 16 (fun v wx => v = .bool (!codesB a) ∧ wx = w5)
  case first =>
    cases b1 : capsB a.code 3
    · rw [b1] at C1 HB
      go_wp2_with (go_at_call 45; refine (C1.out _).mono ?_; rintro e w' ⟨rfl, rfl⟩)
      go_meet
      exact ⟨by rw [HB.out]; rfl, rfl⟩
    rw [b1] at C1 HB
    cases b2 : capsB a.city 3
    · rw [b2] at C2 HB
      go_wp2_with (first | (go_at_call 45; with_reducible refine (C1.out _).mono ?_; rintro e w' ⟨rfl, rfl⟩) | (go_at_call 45; with_reducible refine (C2.out _).mono ?_; rintro e w' ⟨rfl, rfl⟩))
      all_goals
        go_meet
        exact ⟨by rw [HB.out]; rfl, rfl⟩
    rw [b2] at C2 HB
    cases b3 : capsB a.land 2 <;> rw [b3] at C3 HB <;>
    · go_wp2_with (first | (go_at_call 46; refine (C3.out _).mono ?_; rintro e w' ⟨rfl, rfl⟩) | (go_at_call 45; with_reducible refine (C1.out _).mono ?_; rintro e w' ⟨rfl, rfl⟩) | (go_at_call 45; with_reducible refine (C2.out _).mono ?_; rintro e w' ⟨rfl, rfl⟩))
      go_meet
      exact ⟨by rw [HB.out]; rfl, rfl⟩
  case rest =>
    obtain ⟨rfl, hwc⟩ := hcut
    obtain rfl := hwc.symm
    clear C1 C2 C3 HB
    have hBw := hb0.size
    go_upto_if 31 with fail
    go_cut [5] from 16 (fun v wx => Hid (EOwn w5.heap.size wx v (okE [if codesB a then 0 else 5]) ∧ SW w5 wx))
    case first =>
      cases hcb : codesB a with
      | true =>
        go_wp2
        go_meet
        exact Lib.hid ⟨by rw [hcb]; exact ROwn.nil (Nat.le_refl _), Below.refl _ _⟩
      | false =>
        have hN : EOwn w5.heap.size w5 (.slice none 0 0) [] := ROwn.nil (Nat.le_refl _)
        go_wp2_with (at_builtin; refine wpList_rapp rtE rfl _ _ rfl hN rfl (bel_alloc _ _) _ 5 _ rfl (cs := #[.int .i64 5]) rfl (heap_alloc_new _ _) (by simp) ?_; intro v' w' hO hC)
        go_meet
        exact Lib.hid ⟨by rw [hcb]; exact hO, hC.but.below (Nat.le_refl _) (fun k hk hv => by cases hv)⟩
    case rest =>
      have HC := Lib.hid hcut.out.1
      have hS0 : SW w5 wc := hcut.out.2
      generalize (if codesB a then (0 : Int) else 5) = x0 at *
      clear hcut
      have f0 := bel_get p0
      have g0 := bel_get q0
      have g1 := bel_get q1
      have g2 := bel_get q2
      have g3 := bel_get q3
      have g4 := bel_get q4
      go_wp2
      go_loopw [7, 8, 9] (fun v7 v8 vi wr => ∃ (k : Nat) (tw mv : Bool), k ≤ i ∧ vi = .int .i64 k ∧ v7 = .bool tw ∧ v8 = .bool mv ∧ Hid (tw = (l.take k).any (fun b => decide (b.code = a.code))) ∧ Hid (mv = (l.take k).any (fun b => decide (b.city = a.city) && !decide (b.land = a.land))) ∧ SW wc wr) (fun _ _ vi _ => i - (intOf vi).toNat)
      case atStart => exact ⟨0, false, false, Nat.zero_le _, rfl, rfl, rfl, Lib.hid rfl, Lib.hid rfl, Below.refl _ _⟩
      case round =>
        obtain ⟨k, tw, mv, hk, rfl, rfl, rfl, HT, HM, hS⟩ := hrel
        have hSr : SW w5 wr := Below.trans hS0 (Below.mono hS hS0.size)
        by_cases hlt : k < i
        · obtain ⟨bb', off', b, e, hgl', hkb, hb⟩ := (hLa5.more hSr).at (show k < l.length by omega)
          cases e
          have HT2 := Lib.hid (any_take (fun b => decide (b.code = a.code)) l k b hkb)
          have HM2 := Lib.hid (any_take (fun b => decide (b.city = a.city) && !decide (b.land = a.land)) l k b hkb)
          have i2 : (k : Int) < (i : Int) := by omega
          have i3 : (k : Int) < (l.length : Int) := by omega
          have e1 := eqB b.code a.code
          have e2 := eqB b.city a.city
          have e3 := eqB b.land a.land
          have k0 := SW.cell (f0 _ hSr)
          have k1 := SW.cell (g0 _ hSr)
          have k2 := SW.cell (g1 _ hSr)
          have k3 := SW.cell (g2 _ hSr)
          have k4 := SW.cell hb.c0
          have k5 := SW.cell hb.c1
          have k6 := SW.cell hb.c2
          clear hkb hb
          cases tw with
          | true =>
            have HT3 : Hid (true = (l.take (k + 1)).any (fun b => decide (b.code = a.code))) := Lib.hid (by rw [HT2.out, ← HT.out]; simp)
            cases mv with
            | true =>
              have HM3 : Hid (true = (l.take (k + 1)).any (fun b => decide (b.city = a.city) && !decide (b.land = a.land))) := Lib.hid (by rw [HM2.out, ← HM.out]; simp)
              clear HT2 HM2
              clear e1 e3
              go_wp2
              have hNe : Nonempty (Wd (SW wr)) := ⟨⟨_, SW.drew _⟩⟩
              refine quietS (S := SW wr) (by kernel_rfl) (by kernel_rfl) (SW.drew _) ?_
              repeat (first | go_big_quiet_skip | (go_big_quiet_want; go_big_quiet_op; first | go_big_quiet_on | go_big_quiet_call ((fail))))
              refine wpQuiet_nil ?_
              rintro W ⟨⟨_, hW⟩, rfl⟩
              go_wp2
              have hNe : Nonempty (Wd (SW wr)) := ⟨⟨_, (Below.drew hW)⟩⟩
              refine quietS (S := SW wr) (by kernel_rfl) (by kernel_rfl) ((Below.drew hW)) ?_
              repeat (first | go_big_quiet_skip | (go_big_quiet_want; go_big_quiet_op; first | go_big_quiet_on | go_big_quiet_call ((fail))))
              refine wpQuiet_nil ?_
              rintro W ⟨⟨_, hW⟩, rfl⟩
              go_wp2
              go_roundw
              case rel => exact ⟨k + 1, true, true, by omega, by go_num, rfl, rfl, HT3, HM3, Below.trans hS (Below.mono hW hS.size)⟩
              case measure => simp [intOf]; omega
            | false =>
              cases hce : decide (b.city = a.city) with
              | true =>
                rw [hce] at e2
                have HM3 : Hid ((!(b.land.toList == a.land.toList)) = (l.take (k + 1)).any (fun b => decide (b.city = a.city) && !decide (b.land = a.land))) := Lib.hid (by rw [HM2.out, ← HM.out, hce, e3]; simp)
                clear HT2 HM2 hce
                clear e1 e3
                go_wp2
                have hNe : Nonempty (Wd (SW wr)) := ⟨⟨_, SW.drew _⟩⟩
                refine quietS (S := SW wr) (by kernel_rfl) (by kernel_rfl) (SW.drew _) ?_
                repeat (first | go_big_quiet_skip | (go_big_quiet_want; go_big_quiet_op; first | go_big_quiet_on | go_big_quiet_call ((fail))))
                refine wpQuiet_nil ?_
                rintro W ⟨⟨_, hW⟩, rfl⟩
                go_wp2
                have hNe : Nonempty (Wd (SW wr)) := ⟨⟨_, (Below.drew hW)⟩⟩
                refine quietS (S := SW wr) (by kernel_rfl) (by kernel_rfl) ((Below.drew hW)) ?_
                repeat (first | go_big_quiet_skip | (go_big_quiet_want; go_big_quiet_op; first | go_big_quiet_on | go_big_quiet_call ((fail))))
                refine wpQuiet_nil ?_
                rintro W ⟨⟨_, hW⟩, rfl⟩
                go_wp2
                go_roundw
                case rel => exact ⟨k + 1, true, (!(b.land.toList == a.land.toList)), by omega, by go_num, rfl, rfl, HT3, HM3, Below.trans hS (Below.mono hW hS.size)⟩
                case measure => simp [intOf]; omega
              | false =>
                rw [hce] at e2
                have HM3 : Hid (false = (l.take (k + 1)).any (fun b => decide (b.city = a.city) && !decide (b.land = a.land))) := Lib.hid (by rw [HM2.out, ← HM.out, hce]; simp)
                clear HT2 HM2 hce
                clear e1 e3
                go_wp2
                have hNe : Nonempty (Wd (SW wr)) := ⟨⟨_, SW.drew _⟩⟩
                refine quietS (S := SW wr) (by kernel_rfl) (by kernel_rfl) (SW.drew _) ?_
                repeat (first | go_big_quiet_skip | (go_big_quiet_want; go_big_quiet_op; first | go_big_quiet_on | go_big_quiet_call ((fail))))
                refine wpQuiet_nil ?_
                rintro W ⟨⟨_, hW⟩, rfl⟩
                go_wp2
                have hNe : Nonempty (Wd (SW wr)) := ⟨⟨_, (Below.drew hW)⟩⟩
                refine quietS (S := SW wr) (by kernel_rfl) (by kernel_rfl) ((Below.drew hW)) ?_
                repeat (first | go_big_quiet_skip | (go_big_quiet_want; go_big_quiet_op; first | go_big_quiet_on | go_big_quiet_call ((fail))))
                refine wpQuiet_nil ?_
                rintro W ⟨⟨_, hW⟩, rfl⟩
                go_wp2
                go_roundw
                case rel => exact ⟨k + 1, true, false, by omega, by go_num, rfl, rfl, HT3, HM3, Below.trans hS (Below.mono hW hS.size)⟩
                case measure => simp [intOf]; omega
          | false =>
            have HT3 : Hid ((b.code.toList == a.code.toList) = (l.take (k + 1)).any (fun b => decide (b.code = a.code))) := Lib.hid (by rw [HT2.out, ← HT.out, e1]; simp)
            cases mv with
            | true =>
              have HM3 : Hid (true = (l.take (k + 1)).any (fun b => decide (b.city = a.city) && !decide (b.land = a.land))) := Lib.hid (by rw [HM2.out, ← HM.out]; simp)
              clear HT2 HM2
              clear e1 e3
              go_wp2
              have hNe : Nonempty (Wd (SW wr)) := ⟨⟨_, SW.drew _⟩⟩
              refine quietS (S := SW wr) (by kernel_rfl) (by kernel_rfl) (SW.drew _) ?_
              repeat (first | go_big_quiet_skip | (go_big_quiet_want; go_big_quiet_op; first | go_big_quiet_on | go_big_quiet_call ((fail))))
              refine wpQuiet_nil ?_
              rintro W ⟨⟨_, hW⟩, rfl⟩
              go_wp2
              have hNe : Nonempty (Wd (SW wr)) := ⟨⟨_, (Below.drew hW)⟩⟩
              refine quietS (S := SW wr) (by kernel_rfl) (by kernel_rfl) ((Below.drew hW)) ?_
              repeat (first | go_big_quiet_skip | (go_big_quiet_want; go_big_quiet_op; first | go_big_quiet_on | go_big_quiet_call ((fail))))
              refine wpQuiet_nil ?_
              rintro W ⟨⟨_, hW⟩, rfl⟩
              go_wp2
              go_roundw
              case rel => exact ⟨k + 1, (b.code.toList == a.code.toList), true, by omega, by go_num, rfl, rfl, HT3, HM3, Below.trans hS (Below.mono hW hS.size)⟩
              case measure => simp [intOf]; omega
            | false =>
              cases hce : decide (b.city = a.city) with
              | true =>
                rw [hce] at e2
                have HM3 : Hid ((!(b.land.toList == a.land.toList)) = (l.take (k + 1)).any (fun b => decide (b.city = a.city) && !decide (b.land = a.land))) := Lib.hid (by rw [HM2.out, ← HM.out, hce, e3]; simp)
                clear HT2 HM2 hce
                clear e1 e3
                go_wp2
                have hNe : Nonempty (Wd (SW wr)) := ⟨⟨_, SW.drew _⟩⟩
                refine quietS (S := SW wr) (by kernel_rfl) (by kernel_rfl) (SW.drew _) ?_
                repeat (first | go_big_quiet_skip | (go_big_quiet_want; go_big_quiet_op; first | go_big_quiet_on | go_big_quiet_call ((fail))))
                refine wpQuiet_nil ?_
                rintro W ⟨⟨_, hW⟩, rfl⟩
                go_wp2
                have hNe : Nonempty (Wd (SW wr)) := ⟨⟨_, (Below.drew hW)⟩⟩
                refine quietS (S := SW wr) (by kernel_rfl) (by kernel_rfl) ((Below.drew hW)) ?_
                repeat (first | go_big_quiet_skip | (go_big_quiet_want; go_big_quiet_op; first | go_big_quiet_on | go_big_quiet_call ((fail))))
                refine wpQuiet_nil ?_
                rintro W ⟨⟨_, hW⟩, rfl⟩
                go_wp2
                go_roundw
                case rel => exact ⟨k + 1, (b.code.toList == a.code.toList), (!(b.land.toList == a.land.toList)), by omega, by go_num, rfl, rfl, HT3, HM3, Below.trans hS (Below.mono hW hS.size)⟩
                case measure => simp [intOf]; omega
              | false =>
                rw [hce] at e2
                have HM3 : Hid (false = (l.take (k + 1)).any (fun b => decide (b.city = a.city) && !decide (b.land = a.land))) := Lib.hid (by rw [HM2.out, ← HM.out, hce]; simp)
                clear HT2 HM2 hce
                clear e1 e3
                go_wp2
                have hNe : Nonempty (Wd (SW wr)) := ⟨⟨_, SW.drew _⟩⟩
                refine quietS (S := SW wr) (by kernel_rfl) (by kernel_rfl) (SW.drew _) ?_
                repeat (first | go_big_quiet_skip | (go_big_quiet_want; go_big_quiet_op; first | go_big_quiet_on | go_big_quiet_call ((fail))))
                refine wpQuiet_nil ?_
                rintro W ⟨⟨_, hW⟩, rfl⟩
                go_wp2
                have hNe : Nonempty (Wd (SW wr)) := ⟨⟨_, (Below.drew hW)⟩⟩
                refine quietS (S := SW wr) (by kernel_rfl) (by kernel_rfl) ((Below.drew hW)) ?_
                repeat (first | go_big_quiet_skip | (go_big_quiet_want; go_big_quiet_op; first | go_big_quiet_on | go_big_quiet_call ((fail))))
                refine wpQuiet_nil ?_
                rintro W ⟨⟨_, hW⟩, rfl⟩
                go_wp2
                go_roundw
                case rel => exact ⟨k + 1, (b.code.toList == a.code.toList), false, by omega, by go_num, rfl, rfl, HT3, HM3, Below.trans hS (Below.mono hW hS.size)⟩
                case measure => simp [intOf]; omega
        · have hki : k = i := by omega
          subst hki
          have hO := HC.out.more hS
          have HLn : Hid ((okE [x0]).length ≤ 1) := Lib.hid (by unfold okE; exact List.length_filter_le _ _)
          have KZ : Hid (∀ W, SW w5 W → Calls Tryd.prog 47 #[.agg #[.int .i64 a.off, .slice a.A a.shs.length a.c]] W fun e w' => e = .returned (.int .i64 (errZ a.off a.shs)) ∧ Below W.heap.size W w') := Lib.hid (fun W hW => rcheck_any a.off a.A a.c a.shs W s4 (hsh5.more hW) s5)
          rw [← HT.out, ← HM.out] at HAE
          clear HT HM HC hLa5 hsh5
          generalize errZ a.off a.shs = ez at *
          have HE3 : Hid (okE (airE (l.take k) a) = okE [x0] ++ okE [if tw = true then 6 else 0] ++ okE [if mv = true then 8 else 0] ++ okE [ez]) := Lib.hid (by rw [HAE.out, ← okE_app, ← okE_app, ← okE_app]; rfl)
          clear HAE
          cases tw with
          | true =>
            cases mv with
            | true =>
              by_cases hez : ez = 0
              · subst hez
                have HF : Hid (okE (airE (l.take k) a) = okE [x0] ++ [6] ++ [8]) := Lib.hid (by rw [HE3.out]; simp [okE])
                clear HE3
                have z3 := g3 _ hSr
                have z4 := g4 _ hSr
                go_wp2_with (first | (go_at_call 47; refine (KZ.out _ hSb).mono ?_; rintro e wz ⟨rfl, hbz⟩; have hOz := hOb.more hbz; have hSz : SW w5 wz := Below.trans hSb (Below.mono hbz hSb.size)) | (at_builtin; refine wpList_rapp rtE rfl _ _ rfl hOa rfl (bel_alloc _ _) _ (8 : Int) _ rfl (cs := #[.int .i64 8]) rfl (heap_alloc_new _ _) (by have := HLn.out; (try simp only [List.length_append, List.length_cons, List.length_nil]); omega) ?_; intro vb wb hOb hCb; have hSb : SW w5 wb := Below.trans hSa ((hCb.below hOa).mono (Nat.le_refl _)); have z3 := g3 _ hSb; have z4 := g4 _ hSb) | (at_builtin; refine wpList_rapp rtE rfl _ _ rfl hO rfl (bel_alloc _ _) _ (6 : Int) _ rfl (cs := #[.int .i64 6]) rfl (heap_alloc_new _ _) (by have := HLn.out; (try simp only [List.length_append, List.length_cons, List.length_nil]); omega) ?_; intro va wa hOa hCa; have hSa : SW w5 wa := Below.trans hSr ((hCa.below hO).mono (Nat.le_refl _)); have z3 := g3 _ hSa; have z4 := g4 _ hSa))
                go_ret
                exact ⟨_, rfl, ⟨by rw [HF.out]; exact hOz.own.mono hBw, Nat.le_trans hBw hSz.size⟩, hb0.trans (Below.mono hSz hBw)⟩
              · have hez2 : (ez != 0) = true := by simp [hez]
                have HF : Hid (okE (airE (l.take k) a) = okE [x0] ++ [6] ++ [8] ++ [ez]) := Lib.hid (by rw [HE3.out]; rw [okE_one ez hez]; simp [okE])
                clear HE3 hez
                have z3 := g3 _ hSr
                have z4 := g4 _ hSr
                go_wp2_with (first | (at_builtin; refine wpList_rapp rtE rfl _ _ rfl hOz rfl (bel_alloc _ _) _ (ez : Int) _ rfl (cs := #[.int .i64 ez]) rfl (heap_alloc_new _ _) (by have := HLn.out; (try simp only [List.length_append, List.length_cons, List.length_nil]); omega) ?_; intro vc wc hOc hCc; have hSc : SW w5 wc := Below.trans hSz ((hCc.below hOz).mono (Nat.le_refl _)); have z3 := g3 _ hSc; have z4 := g4 _ hSc) | (go_at_call 47; refine (KZ.out _ hSb).mono ?_; rintro e wz ⟨rfl, hbz⟩; have hOz := hOb.more hbz; have hSz : SW w5 wz := Below.trans hSb (Below.mono hbz hSb.size)) | (at_builtin; refine wpList_rapp rtE rfl _ _ rfl hOa rfl (bel_alloc _ _) _ (8 : Int) _ rfl (cs := #[.int .i64 8]) rfl (heap_alloc_new _ _) (by have := HLn.out; (try simp only [List.length_append, List.length_cons, List.length_nil]); omega) ?_; intro vb wb hOb hCb; have hSb : SW w5 wb := Below.trans hSa ((hCb.below hOa).mono (Nat.le_refl _)); have z3 := g3 _ hSb; have z4 := g4 _ hSb) | (at_builtin; refine wpList_rapp rtE rfl _ _ rfl hO rfl (bel_alloc _ _) _ (6 : Int) _ rfl (cs := #[.int .i64 6]) rfl (heap_alloc_new _ _) (by have := HLn.out; (try simp only [List.length_append, List.length_cons, List.length_nil]); omega) ?_; intro va wa hOa hCa; have hSa : SW w5 wa := Below.trans hSr ((hCa.below hO).mono (Nat.le_refl _)); have z3 := g3 _ hSa; have z4 := g4 _ hSa))
                go_ret
                exact ⟨_, rfl, ⟨by rw [HF.out]; exact hOc.own.mono hBw, Nat.le_trans hBw hSc.size⟩, hb0.trans (Below.mono hSc hBw)⟩
            | false =>
              by_cases hez : ez = 0
              · subst hez
                have HF : Hid (okE (airE (l.take k) a) = okE [x0] ++ [6]) := Lib.hid (by rw [HE3.out]; simp [okE])
                clear HE3
                have z3 := g3 _ hSr
                have z4 := g4 _ hSr
                go_wp2_with (first | (go_at_call 47; refine (KZ.out _ hSa).mono ?_; rintro e wz ⟨rfl, hbz⟩; have hOz := hOa.more hbz; have hSz : SW w5 wz := Below.trans hSa (Below.mono hbz hSa.size)) | (at_builtin; refine wpList_rapp rtE rfl _ _ rfl hO rfl (bel_alloc _ _) _ (6 : Int) _ rfl (cs := #[.int .i64 6]) rfl (heap_alloc_new _ _) (by have := HLn.out; (try simp only [List.length_append, List.length_cons, List.length_nil]); omega) ?_; intro va wa hOa hCa; have hSa : SW w5 wa := Below.trans hSr ((hCa.below hO).mono (Nat.le_refl _)); have z3 := g3 _ hSa; have z4 := g4 _ hSa))
                go_ret
                exact ⟨_, rfl, ⟨by rw [HF.out]; exact hOz.own.mono hBw, Nat.le_trans hBw hSz.size⟩, hb0.trans (Below.mono hSz hBw)⟩
              · have hez2 : (ez != 0) = true := by simp [hez]
                have HF : Hid (okE (airE (l.take k) a) = okE [x0] ++ [6] ++ [ez]) := Lib.hid (by rw [HE3.out]; rw [okE_one ez hez]; simp [okE])
                clear HE3 hez
                have z3 := g3 _ hSr
                have z4 := g4 _ hSr
                go_wp2_with (first | (at_builtin; refine wpList_rapp rtE rfl _ _ rfl hOz rfl (bel_alloc _ _) _ (ez : Int) _ rfl (cs := #[.int .i64 ez]) rfl (heap_alloc_new _ _) (by have := HLn.out; (try simp only [List.length_append, List.length_cons, List.length_nil]); omega) ?_; intro vc wc hOc hCc; have hSc : SW w5 wc := Below.trans hSz ((hCc.below hOz).mono (Nat.le_refl _)); have z3 := g3 _ hSc; have z4 := g4 _ hSc) | (go_at_call 47; refine (KZ.out _ hSa).mono ?_; rintro e wz ⟨rfl, hbz⟩; have hOz := hOa.more hbz; have hSz : SW w5 wz := Below.trans hSa (Below.mono hbz hSa.size)) | (at_builtin; refine wpList_rapp rtE rfl _ _ rfl hO rfl (bel_alloc _ _) _ (6 : Int) _ rfl (cs := #[.int .i64 6]) rfl (heap_alloc_new _ _) (by have := HLn.out; (try simp only [List.length_append, List.length_cons, List.length_nil]); omega) ?_; intro va wa hOa hCa; have hSa : SW w5 wa := Below.trans hSr ((hCa.below hO).mono (Nat.le_refl _)); have z3 := g3 _ hSa; have z4 := g4 _ hSa))
                go_ret
                exact ⟨_, rfl, ⟨by rw [HF.out]; exact hOc.own.mono hBw, Nat.le_trans hBw hSc.size⟩, hb0.trans (Below.mono hSc hBw)⟩
          | false =>
            cases mv with
            | true =>
              by_cases hez : ez = 0
              · subst hez
                have HF : Hid (okE (airE (l.take k) a) = okE [x0] ++ [8]) := Lib.hid (by rw [HE3.out]; simp [okE])
                clear HE3
                have z3 := g3 _ hSr
                have z4 := g4 _ hSr
                go_wp2_with (first | (go_at_call 47; refine (KZ.out _ hSb).mono ?_; rintro e wz ⟨rfl, hbz⟩; have hOz := hOb.more hbz; have hSz : SW w5 wz := Below.trans hSb (Below.mono hbz hSb.size)) | (at_builtin; refine wpList_rapp rtE rfl _ _ rfl hO rfl (bel_alloc _ _) _ (8 : Int) _ rfl (cs := #[.int .i64 8]) rfl (heap_alloc_new _ _) (by have := HLn.out; (try simp only [List.length_append, List.length_cons, List.length_nil]); omega) ?_; intro vb wb hOb hCb; have hSb : SW w5 wb := Below.trans hSr ((hCb.below hO).mono (Nat.le_refl _)); have z3 := g3 _ hSb; have z4 := g4 _ hSb))
                go_ret
                exact ⟨_, rfl, ⟨by rw [HF.out]; exact hOz.own.mono hBw, Nat.le_trans hBw hSz.size⟩, hb0.trans (Below.mono hSz hBw)⟩
              · have hez2 : (ez != 0) = true := by simp [hez]
                have HF : Hid (okE (airE (l.take k) a) = okE [x0] ++ [8] ++ [ez]) := Lib.hid (by rw [HE3.out]; rw [okE_one ez hez]; simp [okE])
                clear HE3 hez
                have z3 := g3 _ hSr
                have z4 := g4 _ hSr
                go_wp2_with (first | (at_builtin; refine wpList_rapp rtE rfl _ _ rfl hOz rfl (bel_alloc _ _) _ (ez : Int) _ rfl (cs := #[.int .i64 ez]) rfl (heap_alloc_new _ _) (by have := HLn.out; (try simp only [List.length_append, List.length_cons, List.length_nil]); omega) ?_; intro vc wc hOc hCc; have hSc : SW w5 wc := Below.trans hSz ((hCc.below hOz).mono (Nat.le_refl _)); have z3 := g3 _ hSc; have z4 := g4 _ hSc) | (go_at_call 47; refine (KZ.out _ hSb).mono ?_; rintro e wz ⟨rfl, hbz⟩; have hOz := hOb.more hbz; have hSz : SW w5 wz := Below.trans hSb (Below.mono hbz hSb.size)) | (at_builtin; refine wpList_rapp rtE rfl _ _ rfl hO rfl (bel_alloc _ _) _ (8 : Int) _ rfl (cs := #[.int .i64 8]) rfl (heap_alloc_new _ _) (by have := HLn.out; (try simp only [List.length_append, List.length_cons, List.length_nil]); omega) ?_; intro vb wb hOb hCb; have hSb : SW w5 wb := Below.trans hSr ((hCb.below hO).mono (Nat.le_refl _)); have z3 := g3 _ hSb; have z4 := g4 _ hSb))
                go_ret
                exact ⟨_, rfl, ⟨by rw [HF.out]; exact hOc.own.mono hBw, Nat.le_trans hBw hSc.size⟩, hb0.trans (Below.mono hSc hBw)⟩
            | false =>
              by_cases hez : ez = 0
              · subst hez
                have HF : Hid (okE (airE (l.take k) a) = okE [x0]) := Lib.hid (by rw [HE3.out]; simp [okE])
                clear HE3
                have z3 := g3 _ hSr
                have z4 := g4 _ hSr
                go_wp2_with (first | (go_at_call 47; refine (KZ.out _ hSr).mono ?_; rintro e wz ⟨rfl, hbz⟩; have hOz := hO.more hbz; have hSz : SW w5 wz := Below.trans hSr (Below.mono hbz hSr.size)))
                go_ret
                exact ⟨_, rfl, ⟨by rw [HF.out]; exact hOz.own.mono hBw, Nat.le_trans hBw hSz.size⟩, hb0.trans (Below.mono hSz hBw)⟩
              · have hez2 : (ez != 0) = true := by simp [hez]
                have HF : Hid (okE (airE (l.take k) a) = okE [x0] ++ [ez]) := Lib.hid (by rw [HE3.out]; rw [okE_one ez hez]; simp [okE])
                clear HE3 hez
                have z3 := g3 _ hSr
                have z4 := g4 _ hSr
                go_wp2_with (first | (at_builtin; refine wpList_rapp rtE rfl _ _ rfl hOz rfl (bel_alloc _ _) _ (ez : Int) _ rfl (cs := #[.int .i64 ez]) rfl (heap_alloc_new _ _) (by have := HLn.out; (try simp only [List.length_append, List.length_cons, List.length_nil]); omega) ?_; intro vc wc hOc hCc; have hSc : SW w5 wc := Below.trans hSz ((hCc.below hOz).mono (Nat.le_refl _)); have z3 := g3 _ hSc; have z4 := g4 _ hSc) | (go_at_call 47; refine (KZ.out _ hSr).mono ?_; rintro e wz ⟨rfl, hbz⟩; have hOz := hO.more hbz; have hSz : SW w5 wz := Below.trans hSr (Below.mono hbz hSr.size)))
                go_ret
                exact ⟨_, rfl, ⟨by rw [HF.out]; exact hOc.own.mono hBw, Nat.le_trans hBw hSc.size⟩, hb0.trans (Below.mono hSc hBw)⟩

end Go.Proofs.YtkcdifanhdakhaaDoor
