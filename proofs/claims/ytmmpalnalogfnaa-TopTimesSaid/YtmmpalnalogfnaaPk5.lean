/- Words and walks that the laws below ask: PlaZ, PlaQA, PlaQB, RDec, PlaQC, TopB, FliP, FliQ, ZonE. -/
import Derived.Deep.CutRange
import Derived.Deep.Onto
import Derived.Lib.ItoaLen
import Derived.Deep.LoopGhost
import Derived.Test.YtmmpalnalogfnaaPk1
import Derived.Test.YtmmpalnalogfnaaPk2
import Derived.Test.YtmmpalnalogfnaaPk3
import Derived.Test.YtmmpalnalogfnaaPk4
/- Walk of the reference's Country. -/
namespace Go.Proofs.Ytmmpalnalogfnaa
open Go.RowKit Go.Shelf
set_option linter.unusedSimpArgs false
set_option linter.unusedVariables false

end Go.Proofs.Ytmmpalnalogfnaa

/- Walk of the reference's airport. -/
namespace Go.Proofs.Ytmmpalnalogfnaa
open Go.RowKit Go.Shelf
set_option linter.unusedSimpArgs false
set_option linter.unusedVariables false

abbrev errnT : TypeId := 37
def encE (x : Int) : List Value := [.int .i64 x]
theorem rtE : RT Try.prog 81 errnT 1 encE where
  ht := Try.underlying81
  info := ⟨.int .i64 0, 8, by kernel_rfl, rfl, by omega⟩
  len x := rfl
  one x u hu := by simp [encE] at hu; subst hu; rfl
  pos := by omega
abbrev EOwn (B : Nat) (w : World) (v : Value) (l : List Int) : Prop := ROwn errnT 1 encE B w v l
theorem rairp_any (s : ByteArray) (w : World) (hs : s.size ≤ maxLen) : Calls Try.prog 67 #[.string s] w fun e w' => e = .returned (.bool (capsB s 3)) ∧ w = w' := by
  go_enter Try.func67, Try.ntmps67
  go_wp2_with (go_at_call 82; refine (letters_any _ _ _ hs).mono ?_; rintro e w' ⟨rfl, rfl⟩)
  go_ret
  exact ⟨rfl, rfl⟩
theorem rland_any (s : ByteArray) (w : World) (hs : s.size ≤ maxLen) : Calls Try.prog 68 #[.string s] w fun e w' => e = .returned (.bool (capsB s 2)) ∧ w = w' := by
  go_enter Try.func68, Try.ntmps68
  go_wp2_with (go_at_call 82; refine (letters_any _ _ _ hs).mono ?_; rintro e w' ⟨rfl, rfl⟩)
  go_ret
  exact ⟨rfl, rfl⟩
theorem okE_app (a b : List Int) : okE (a ++ b) = okE a ++ okE b := by simp [okE]
theorem okE_one (e : Int) (h : e ≠ 0) : okE [e] = [e] := by simp [okE, h]
theorem any_take {α : Type} (q : α → Bool) (l : List α) (k : Nat) (a : α) (h : l[k]? = some a) : (l.take (k + 1)).any q = ((l.take k).any q || q a) := by
  rw [List.take_add_one, h, List.any_append]
  simp
theorem eqB (a b : ByteArray) : (a.toList == b.toList) = decide (a = b) := by
  by_cases h : a = b
  · subst h; simp
  · rw [decide_eq_false h]
    cases hh : (a.toList == b.toList) with
    | false => rfl
    | true => exact absurd ((eqS_iff a b).1 hh) h

set_option maxRecDepth 100000 in
set_option maxHeartbeats 8000000 in
theorem rairport_any (p : PV) (i : Nat) (a : Air) (w : World) (hp : OkP p) (hL : PlL w p) (hi : p.l[i]? = some a) :
    Calls Try.prog 39 #[encP p, .int .i64 (i : Int)] w fun e w' => ∃ v', e = .returned v' ∧ EOwn w.heap.size w' v' (okE (airE (p.l.take i) a)) ∧ Below w.heap.size w w' := by
  obtain ⟨A, ca, l, D, cd, ds⟩ := p
  obtain ⟨hA, hD, hla, hld⟩ := hp
  obtain ⟨hLa, hLd⟩ := hL
  dsimp only at *
  have hil := (List.getElem?_eq_some_iff.1 hi).1
  obtain ⟨bb, off, a', rfl, hgl, hka, ha⟩ := hLa.at hil
  rw [hi] at hka
  obtain rfl := Option.some.inj hka
  obtain ⟨s1, s2, s3, s4, s5⟩ := hA a (List.mem_of_getElem? hi)
  have hb1 := bel_alloc w (.cells #[.slice (some ⟨bb, off, none⟩) l.length ca, .slice D ds.length cd] placesT)
  have hb2 := bel_alloc (w.alloc (.cells #[.slice (some ⟨bb, off, none⟩) l.length ca, .slice D ds.length cd] placesT)) (.cells #[.string a.code, .string a.city, .string a.land, .int .i64 a.off, .slice a.A a.shs.length a.c] airT)
  have p0 := bel_cell hb2 ((cells_new w #[.slice (some ⟨bb, off, none⟩) l.length ca, .slice D ds.length cd] placesT 0).trans (show _ = some _ from rfl))
  have p1 := bel_cell hb2 ((cells_new w #[.slice (some ⟨bb, off, none⟩) l.length ca, .slice D ds.length cd] placesT 1).trans (show _ = some _ from rfl))
  have q0 := (cells_new (w.alloc (.cells #[.slice (some ⟨bb, off, none⟩) l.length ca, .slice D ds.length cd] placesT)) #[.string a.code, .string a.city, .string a.land, .int .i64 a.off, .slice a.A a.shs.length a.c] airT 0).trans (show _ = some _ from rfl)
  have q1 := (cells_new (w.alloc (.cells #[.slice (some ⟨bb, off, none⟩) l.length ca, .slice D ds.length cd] placesT)) #[.string a.code, .string a.city, .string a.land, .int .i64 a.off, .slice a.A a.shs.length a.c] airT 1).trans (show _ = some _ from rfl)
  have q2 := (cells_new (w.alloc (.cells #[.slice (some ⟨bb, off, none⟩) l.length ca, .slice D ds.length cd] placesT)) #[.string a.code, .string a.city, .string a.land, .int .i64 a.off, .slice a.A a.shs.length a.c] airT 2).trans (show _ = some _ from rfl)
  have q3 := (cells_new (w.alloc (.cells #[.slice (some ⟨bb, off, none⟩) l.length ca, .slice D ds.length cd] placesT)) #[.string a.code, .string a.city, .string a.land, .int .i64 a.off, .slice a.A a.shs.length a.c] airT 3).trans (show _ = some _ from rfl)
  have q4 := (cells_new (w.alloc (.cells #[.slice (some ⟨bb, off, none⟩) l.length ca, .slice D ds.length cd] placesT)) #[.string a.code, .string a.city, .string a.land, .int .i64 a.off, .slice a.A a.shs.length a.c] airT 4).trans (show _ = some _ from rfl)
  rw [World.size_alloc] at q0 q1 q2 q3 q4
  have hb0 := hb1.trans (hb2.mono hb1.size)
  have hLa5 := hLa.more hb0
  have hsh5 := ha.sh.more hb0
  have i1 : (i : Int) < (l.length : Int) := by omega
  have C1 := Lib.hid (fun w => rairp_any a.code w s1)
  have C2 := Lib.hid (fun w => rairp_any a.city w s2)
  have C3 := Lib.hid (fun w => rland_any a.land w s3)
  have HB : Hid (codesB a = (capsB a.code 3 && capsB a.city 3 && capsB a.land 2)) := Lib.hid rfl
  have HAE : Hid (airE (l.take i) a = [if codesB a then 0 else 5, if (l.take i).any (fun b => decide (b.code = a.code)) then 6 else 0, if (l.take i).any (fun b => decide (b.city = a.city) && !decide (b.land = a.land)) then 8 else 0, errZ a.off a.shs]) := Lib.hid rfl
  obtain ⟨a0, a1, a2, a3, a4, ash⟩ := ha
  go_enter Try.func39, Try.ntmps39
  go_upto_region 3 with fail
  clear a0 a1 a2 a3 a4 ash hLa hLd hgl hb1 hb2
  generalize hw5 : (w.alloc (.cells #[.slice (some ⟨bb, off, none⟩) l.length ca, .slice D ds.length cd] placesT)).alloc (.cells #[.string a.code, .string a.city, .string a.land, .int .i64 a.off, .slice a.A a.shs.length a.c] airT) = w5 at *
  clear hw5
  go_cut [31] from 16 (fun v wx => v = .bool (!codesB a) ∧ wx = w5)
  case first =>
    cases b1 : capsB a.code 3
    · rw [b1] at C1 HB
      go_wp2_with (go_at_call 67; refine (C1.out _).mono ?_; rintro e w' ⟨rfl, rfl⟩)
      go_meet
      exact ⟨by rw [HB.out]; rfl, rfl⟩
    rw [b1] at C1 HB
    cases b2 : capsB a.city 3
    · rw [b2] at C2 HB
      go_wp2_with (first | (go_at_call 67; with_reducible refine (C1.out _).mono ?_; rintro e w' ⟨rfl, rfl⟩) | (go_at_call 67; with_reducible refine (C2.out _).mono ?_; rintro e w' ⟨rfl, rfl⟩))
      all_goals
        go_meet
        exact ⟨by rw [HB.out]; rfl, rfl⟩
    rw [b2] at C2 HB
    cases b3 : capsB a.land 2 <;> rw [b3] at C3 HB <;>
    · go_wp2_with (first | (go_at_call 68; refine (C3.out _).mono ?_; rintro e w' ⟨rfl, rfl⟩) | (go_at_call 67; with_reducible refine (C1.out _).mono ?_; rintro e w' ⟨rfl, rfl⟩) | (go_at_call 67; with_reducible refine (C2.out _).mono ?_; rintro e w' ⟨rfl, rfl⟩))
      go_meet
      exact ⟨by rw [HB.out]; rfl, rfl⟩
  case rest =>
    obtain ⟨rfl, hwc⟩ := hcut
    obtain rfl := hwc.symm
    clear C1 C2 C3 HB
    have hBw := hb0.size
    go_upto_if 31 with fail
    go_cut [5] from 16 (fun v wx => Hid (EOwn w5.heap.size wx v (okE [if codesB a then 0 else 5]) ∧ SW w5 wx))
    case first =>
      cases hcb : codesB a with
      | true =>
        go_wp2
        go_meet
        exact Lib.hid ⟨by rw [hcb]; exact ROwn.nil (Nat.le_refl _), Below.refl _ _⟩
      | false =>
        have hN : EOwn w5.heap.size w5 (.slice none 0 0) [] := ROwn.nil (Nat.le_refl _)
        go_wp2_with (at_builtin; refine wpList_rapp rtE rfl _ _ rfl hN rfl (bel_alloc _ _) _ 5 _ rfl (cs := #[.int .i64 5]) rfl (heap_alloc_new _ _) (by simp) ?_; intro v' w' hO hC)
        go_meet
        exact Lib.hid ⟨by rw [hcb]; exact hO, hC.but.below (Nat.le_refl _) (fun k hk hv => by cases hv)⟩
    case rest =>
      have HC := Lib.hid hcut.out.1
      have hS0 : SW w5 wc := hcut.out.2
      generalize (if codesB a then (0 : Int) else 5) = x0 at *
      clear hcut
      have f0 := bel_get p0
      have g0 := bel_get q0
      have g1 := bel_get q1
      have g2 := bel_get q2
      have g3 := bel_get q3
      have g4 := bel_get q4
      go_wp2
      go_loopw [7, 8, 9] (fun v7 v8 vi wr => ∃ (k : Nat) (tw mv : Bool), k ≤ i ∧ vi = .int .i64 k ∧ v7 = .bool tw ∧ v8 = .bool mv ∧ Hid (tw = (l.take k).any (fun b => decide (b.code = a.code))) ∧ Hid (mv = (l.take k).any (fun b => decide (b.city = a.city) && !decide (b.land = a.land))) ∧ SW wc wr) (fun _ _ vi _ => i - (intOf vi).toNat)
      case atStart => exact ⟨0, false, false, Nat.zero_le _, rfl, rfl, rfl, Lib.hid rfl, Lib.hid rfl, Below.refl _ _⟩
      case round =>
        obtain ⟨k, tw, mv, hk, rfl, rfl, rfl, HT, HM, hS⟩ := hrel
        have hSr : SW w5 wr := Below.trans hS0 (Below.mono hS hS0.size)
        by_cases hlt : k < i
        · obtain ⟨bb', off', b, e, hgl', hkb, hb⟩ := (hLa5.more hSr).at (show k < l.length by omega)
          cases e
          have HT2 := Lib.hid (any_take (fun b => decide (b.code = a.code)) l k b hkb)
          have HM2 := Lib.hid (any_take (fun b => decide (b.city = a.city) && !decide (b.land = a.land)) l k b hkb)
          have i2 : (k : Int) < (i : Int) := by omega
          have i3 : (k : Int) < (l.length : Int) := by omega
          have e1 := eqB b.code a.code
          have e2 := eqB b.city a.city
          have e3 := eqB b.land a.land
          have k0 := SW.cell (f0 _ hSr)
          have k1 := SW.cell (g0 _ hSr)
          have k2 := SW.cell (g1 _ hSr)
          have k3 := SW.cell (g2 _ hSr)
          have k4 := SW.cell hb.c0
          have k5 := SW.cell hb.c1
          have k6 := SW.cell hb.c2
          clear hkb hb
          cases tw with
          | true =>
            have HT3 : Hid (true = (l.take (k + 1)).any (fun b => decide (b.code = a.code))) := Lib.hid (by rw [HT2.out, ← HT.out]; simp)
            cases mv with
            | true =>
              have HM3 : Hid (true = (l.take (k + 1)).any (fun b => decide (b.city = a.city) && !decide (b.land = a.land))) := Lib.hid (by rw [HM2.out, ← HM.out]; simp)
              clear HT2 HM2
              clear e1 e3
              go_wp2
              have hNe : Nonempty (Wd (SW wr)) := ⟨⟨_, SW.drew _⟩⟩
              refine quietS (S := SW wr) (by kernel_rfl) (by kernel_rfl) (SW.drew _) ?_
              repeat (first | go_big_quiet_skip | (go_big_quiet_want; go_big_quiet_op; first | go_big_quiet_on | go_big_quiet_call ((fail))))
              refine wpQuiet_nil ?_
              rintro W ⟨⟨_, hW⟩, rfl⟩
              go_wp2
              have hNe : Nonempty (Wd (SW wr)) := ⟨⟨_, (Below.drew hW)⟩⟩
              refine quietS (S := SW wr) (by kernel_rfl) (by kernel_rfl) ((Below.drew hW)) ?_
              repeat (first | go_big_quiet_skip | (go_big_quiet_want; go_big_quiet_op; first | go_big_quiet_on | go_big_quiet_call ((fail))))
              refine wpQuiet_nil ?_
              rintro W ⟨⟨_, hW⟩, rfl⟩
              go_wp2
              go_roundw
              case rel => exact ⟨k + 1, true, true, by omega, by go_num, rfl, rfl, HT3, HM3, Below.trans hS (Below.mono hW hS.size)⟩
              case measure => simp [intOf]; omega
            | false =>
              cases hce : decide (b.city = a.city) with
              | true =>
                rw [hce] at e2
                have HM3 : Hid ((!(b.land.toList == a.land.toList)) = (l.take (k + 1)).any (fun b => decide (b.city = a.city) && !decide (b.land = a.land))) := Lib.hid (by rw [HM2.out, ← HM.out, hce, e3]; simp)
                clear HT2 HM2 hce
                clear e1 e3
                go_wp2
                have hNe : Nonempty (Wd (SW wr)) := ⟨⟨_, SW.drew _⟩⟩
                refine quietS (S := SW wr) (by kernel_rfl) (by kernel_rfl) (SW.drew _) ?_
                repeat (first | go_big_quiet_skip | (go_big_quiet_want; go_big_quiet_op; first | go_big_quiet_on | go_big_quiet_call ((fail))))
                refine wpQuiet_nil ?_
                rintro W ⟨⟨_, hW⟩, rfl⟩
                go_wp2
                have hNe : Nonempty (Wd (SW wr)) := ⟨⟨_, (Below.drew hW)⟩⟩
                refine quietS (S := SW wr) (by kernel_rfl) (by kernel_rfl) ((Below.drew hW)) ?_
                repeat (first | go_big_quiet_skip | (go_big_quiet_want; go_big_quiet_op; first | go_big_quiet_on | go_big_quiet_call ((fail))))
                refine wpQuiet_nil ?_
                rintro W ⟨⟨_, hW⟩, rfl⟩
                go_wp2
                go_roundw
                case rel => exact ⟨k + 1, true, (!(b.land.toList == a.land.toList)), by omega, by go_num, rfl, rfl, HT3, HM3, Below.trans hS (Below.mono hW hS.size)⟩
                case measure => simp [intOf]; omega
              | false =>
                rw [hce] at e2
                have HM3 : Hid (false = (l.take (k + 1)).any (fun b => decide (b.city = a.city) && !decide (b.land = a.land))) := Lib.hid (by rw [HM2.out, ← HM.out, hce]; simp)
                clear HT2 HM2 hce
                clear e1 e3
                go_wp2
                have hNe : Nonempty (Wd (SW wr)) := ⟨⟨_, SW.drew _⟩⟩
                refine quietS (S := SW wr) (by kernel_rfl) (by kernel_rfl) (SW.drew _) ?_
                repeat (first | go_big_quiet_skip | (go_big_quiet_want; go_big_quiet_op; first | go_big_quiet_on | go_big_quiet_call ((fail))))
                refine wpQuiet_nil ?_
                rintro W ⟨⟨_, hW⟩, rfl⟩
                go_wp2
                have hNe : Nonempty (Wd (SW wr)) := ⟨⟨_, (Below.drew hW)⟩⟩
                refine quietS (S := SW wr) (by kernel_rfl) (by kernel_rfl) ((Below.drew hW)) ?_
                repeat (first | go_big_quiet_skip | (go_big_quiet_want; go_big_quiet_op; first | go_big_quiet_on | go_big_quiet_call ((fail))))
                refine wpQuiet_nil ?_
                rintro W ⟨⟨_, hW⟩, rfl⟩
                go_wp2
                go_roundw
                case rel => exact ⟨k + 1, true, false, by omega, by go_num, rfl, rfl, HT3, HM3, Below.trans hS (Below.mono hW hS.size)⟩
                case measure => simp [intOf]; omega
          | false =>
            have HT3 : Hid ((b.code.toList == a.code.toList) = (l.take (k + 1)).any (fun b => decide (b.code = a.code))) := Lib.hid (by rw [HT2.out, ← HT.out, e1]; simp)
            cases mv with
            | true =>
              have HM3 : Hid (true = (l.take (k + 1)).any (fun b => decide (b.city = a.city) && !decide (b.land = a.land))) := Lib.hid (by rw [HM2.out, ← HM.out]; simp)
              clear HT2 HM2
              clear e1 e3
              go_wp2
              have hNe : Nonempty (Wd (SW wr)) := ⟨⟨_, SW.drew _⟩⟩
              refine quietS (S := SW wr) (by kernel_rfl) (by kernel_rfl) (SW.drew _) ?_
              repeat (first | go_big_quiet_skip | (go_big_quiet_want; go_big_quiet_op; first | go_big_quiet_on | go_big_quiet_call ((fail))))
              refine wpQuiet_nil ?_
              rintro W ⟨⟨_, hW⟩, rfl⟩
              go_wp2
              have hNe : Nonempty (Wd (SW wr)) := ⟨⟨_, (Below.drew hW)⟩⟩
              refine quietS (S := SW wr) (by kernel_rfl) (by kernel_rfl) ((Below.drew hW)) ?_
              repeat (first | go_big_quiet_skip | (go_big_quiet_want; go_big_quiet_op; first | go_big_quiet_on | go_big_quiet_call ((fail))))
              refine wpQuiet_nil ?_
              rintro W ⟨⟨_, hW⟩, rfl⟩
              go_wp2
              go_roundw
              case rel => exact ⟨k + 1, (b.code.toList == a.code.toList), true, by omega, by go_num, rfl, rfl, HT3, HM3, Below.trans hS (Below.mono hW hS.size)⟩
              case measure => simp [intOf]; omega
            | false =>
              cases hce : decide (b.city = a.city) with
              | true =>
                rw [hce] at e2
                have HM3 : Hid ((!(b.land.toList == a.land.toList)) = (l.take (k + 1)).any (fun b => decide (b.city = a.city) && !decide (b.land = a.land))) := Lib.hid (by rw [HM2.out, ← HM.out, hce, e3]; simp)
                clear HT2 HM2 hce
                clear e1 e3
                go_wp2
                have hNe : Nonempty (Wd (SW wr)) := ⟨⟨_, SW.drew _⟩⟩
                refine quietS (S := SW wr) (by kernel_rfl) (by kernel_rfl) (SW.drew _) ?_
                repeat (first | go_big_quiet_skip | (go_big_quiet_want; go_big_quiet_op; first | go_big_quiet_on | go_big_quiet_call ((fail))))
                refine wpQuiet_nil ?_
                rintro W ⟨⟨_, hW⟩, rfl⟩
                go_wp2
                have hNe : Nonempty (Wd (SW wr)) := ⟨⟨_, (Below.drew hW)⟩⟩
                refine quietS (S := SW wr) (by kernel_rfl) (by kernel_rfl) ((Below.drew hW)) ?_
                repeat (first | go_big_quiet_skip | (go_big_quiet_want; go_big_quiet_op; first | go_big_quiet_on | go_big_quiet_call ((fail))))
                refine wpQuiet_nil ?_
                rintro W ⟨⟨_, hW⟩, rfl⟩
                go_wp2
                go_roundw
                case rel => exact ⟨k + 1, (b.code.toList == a.code.toList), (!(b.land.toList == a.land.toList)), by omega, by go_num, rfl, rfl, HT3, HM3, Below.trans hS (Below.mono hW hS.size)⟩
                case measure => simp [intOf]; omega
              | false =>
                rw [hce] at e2
                have HM3 : Hid (false = (l.take (k + 1)).any (fun b => decide (b.city = a.city) && !decide (b.land = a.land))) := Lib.hid (by rw [HM2.out, ← HM.out, hce]; simp)
                clear HT2 HM2 hce
                clear e1 e3
                go_wp2
                have hNe : Nonempty (Wd (SW wr)) := ⟨⟨_, SW.drew _⟩⟩
                refine quietS (S := SW wr) (by kernel_rfl) (by kernel_rfl) (SW.drew _) ?_
                repeat (first | go_big_quiet_skip | (go_big_quiet_want; go_big_quiet_op; first | go_big_quiet_on | go_big_quiet_call ((fail))))
                refine wpQuiet_nil ?_
                rintro W ⟨⟨_, hW⟩, rfl⟩
                go_wp2
                have hNe : Nonempty (Wd (SW wr)) := ⟨⟨_, (Below.drew hW)⟩⟩
                refine quietS (S := SW wr) (by kernel_rfl) (by kernel_rfl) ((Below.drew hW)) ?_
                repeat (first | go_big_quiet_skip | (go_big_quiet_want; go_big_quiet_op; first | go_big_quiet_on | go_big_quiet_call ((fail))))
                refine wpQuiet_nil ?_
                rintro W ⟨⟨_, hW⟩, rfl⟩
                go_wp2
                go_roundw
                case rel => exact ⟨k + 1, (b.code.toList == a.code.toList), false, by omega, by go_num, rfl, rfl, HT3, HM3, Below.trans hS (Below.mono hW hS.size)⟩
                case measure => simp [intOf]; omega
        · have hki : k = i := by omega
          subst hki
          have hO := HC.out.more hS
          have HLn : Hid ((okE [x0]).length ≤ 1) := Lib.hid (by unfold okE; exact List.length_filter_le _ _)
          have KZ : Hid (∀ W, SW w5 W → Calls Try.prog 69 #[.agg #[.int .i64 a.off, .slice a.A a.shs.length a.c]] W fun e w' => e = .returned (.int .i64 (errZ a.off a.shs)) ∧ Below W.heap.size W w') := Lib.hid (fun W hW => rcheck_any a.off a.A a.c a.shs W s4 (hsh5.more hW) s5)
          rw [← HT.out, ← HM.out] at HAE
          clear HT HM HC hLa5 hsh5
          generalize errZ a.off a.shs = ez at *
          have HE3 : Hid (okE (airE (l.take k) a) = okE [x0] ++ okE [if tw = true then 6 else 0] ++ okE [if mv = true then 8 else 0] ++ okE [ez]) := Lib.hid (by rw [HAE.out, ← okE_app, ← okE_app, ← okE_app]; rfl)
          clear HAE
          cases tw with
          | true =>
            cases mv with
            | true =>
              by_cases hez : ez = 0
              · subst hez
                have HF : Hid (okE (airE (l.take k) a) = okE [x0] ++ [6] ++ [8]) := Lib.hid (by rw [HE3.out]; simp [okE])
                clear HE3
                have z3 := g3 _ hSr
                have z4 := g4 _ hSr
                go_wp2_with (first | (go_at_call 69; refine (KZ.out _ hSb).mono ?_; rintro e wz ⟨rfl, hbz⟩; have hOz := hOb.more hbz; have hSz : SW w5 wz := Below.trans hSb (Below.mono hbz hSb.size)) | (at_builtin; refine wpList_rapp rtE rfl _ _ rfl hOa rfl (bel_alloc _ _) _ (8 : Int) _ rfl (cs := #[.int .i64 8]) rfl (heap_alloc_new _ _) (by have := HLn.out; (try simp only [List.length_append, List.length_cons, List.length_nil]); omega) ?_; intro vb wb hOb hCb; have hSb : SW w5 wb := Below.trans hSa ((hCb.below hOa).mono (Nat.le_refl _)); have z3 := g3 _ hSb; have z4 := g4 _ hSb) | (at_builtin; refine wpList_rapp rtE rfl _ _ rfl hO rfl (bel_alloc _ _) _ (6 : Int) _ rfl (cs := #[.int .i64 6]) rfl (heap_alloc_new _ _) (by have := HLn.out; (try simp only [List.length_append, List.length_cons, List.length_nil]); omega) ?_; intro va wa hOa hCa; have hSa : SW w5 wa := Below.trans hSr ((hCa.below hO).mono (Nat.le_refl _)); have z3 := g3 _ hSa; have z4 := g4 _ hSa))
                go_ret
                exact ⟨_, rfl, ⟨by rw [HF.out]; exact hOz.own.mono hBw, Nat.le_trans hBw hSz.size⟩, hb0.trans (Below.mono hSz hBw)⟩
              · have hez2 : (ez != 0) = true := by simp [hez]
                have HF : Hid (okE (airE (l.take k) a) = okE [x0] ++ [6] ++ [8] ++ [ez]) := Lib.hid (by rw [HE3.out]; rw [okE_one ez hez]; simp [okE])
                clear HE3 hez
                have z3 := g3 _ hSr
                have z4 := g4 _ hSr
                go_wp2_with (first | (at_builtin; refine wpList_rapp rtE rfl _ _ rfl hOz rfl (bel_alloc _ _) _ (ez : Int) _ rfl (cs := #[.int .i64 ez]) rfl (heap_alloc_new _ _) (by have := HLn.out; (try simp only [List.length_append, List.length_cons, List.length_nil]); omega) ?_; intro vc wc hOc hCc; have hSc : SW w5 wc := Below.trans hSz ((hCc.below hOz).mono (Nat.le_refl _)); have z3 := g3 _ hSc; have z4 := g4 _ hSc) | (go_at_call 69; refine (KZ.out _ hSb).mono ?_; rintro e wz ⟨rfl, hbz⟩; have hOz := hOb.more hbz; have hSz : SW w5 wz := Below.trans hSb (Below.mono hbz hSb.size)) | (at_builtin; refine wpList_rapp rtE rfl _ _ rfl hOa rfl (bel_alloc _ _) _ (8 : Int) _ rfl (cs := #[.int .i64 8]) rfl (heap_alloc_new _ _) (by have := HLn.out; (try simp only [List.length_append, List.length_cons, List.length_nil]); omega) ?_; intro vb wb hOb hCb; have hSb : SW w5 wb := Below.trans hSa ((hCb.below hOa).mono (Nat.le_refl _)); have z3 := g3 _ hSb; have z4 := g4 _ hSb) | (at_builtin; refine wpList_rapp rtE rfl _ _ rfl hO rfl (bel_alloc _ _) _ (6 : Int) _ rfl (cs := #[.int .i64 6]) rfl (heap_alloc_new _ _) (by have := HLn.out; (try simp only [List.length_append, List.length_cons, List.length_nil]); omega) ?_; intro va wa hOa hCa; have hSa : SW w5 wa := Below.trans hSr ((hCa.below hO).mono (Nat.le_refl _)); have z3 := g3 _ hSa; have z4 := g4 _ hSa))
                go_ret
                exact ⟨_, rfl, ⟨by rw [HF.out]; exact hOc.own.mono hBw, Nat.le_trans hBw hSc.size⟩, hb0.trans (Below.mono hSc hBw)⟩
            | false =>
              by_cases hez : ez = 0
              · subst hez
                have HF : Hid (okE (airE (l.take k) a) = okE [x0] ++ [6]) := Lib.hid (by rw [HE3.out]; simp [okE])
                clear HE3
                have z3 := g3 _ hSr
                have z4 := g4 _ hSr
                go_wp2_with (first | (go_at_call 69; refine (KZ.out _ hSa).mono ?_; rintro e wz ⟨rfl, hbz⟩; have hOz := hOa.more hbz; have hSz : SW w5 wz := Below.trans hSa (Below.mono hbz hSa.size)) | (at_builtin; refine wpList_rapp rtE rfl _ _ rfl hO rfl (bel_alloc _ _) _ (6 : Int) _ rfl (cs := #[.int .i64 6]) rfl (heap_alloc_new _ _) (by have := HLn.out; (try simp only [List.length_append, List.length_cons, List.length_nil]); omega) ?_; intro va wa hOa hCa; have hSa : SW w5 wa := Below.trans hSr ((hCa.below hO).mono (Nat.le_refl _)); have z3 := g3 _ hSa; have z4 := g4 _ hSa))
                go_ret
                exact ⟨_, rfl, ⟨by rw [HF.out]; exact hOz.own.mono hBw, Nat.le_trans hBw hSz.size⟩, hb0.trans (Below.mono hSz hBw)⟩
              · have hez2 : (ez != 0) = true := by simp [hez]
                have HF : Hid (okE (airE (l.take k) a) = okE [x0] ++ [6] ++ [ez]) := Lib.hid (by rw [HE3.out]; rw [okE_one ez hez]; simp [okE])
                clear HE3 hez
                have z3 := g3 _ hSr
                have z4 := g4 _ hSr
                go_wp2_with (first | (at_builtin; refine wpList_rapp rtE rfl _ _ rfl hOz rfl (bel_alloc _ _) _ (ez : Int) _ rfl (cs := #[.int .i64 ez]) rfl (heap_alloc_new _ _) (by have := HLn.out; (try simp only [List.length_append, List.length_cons, List.length_nil]); omega) ?_; intro vc wc hOc hCc; have hSc : SW w5 wc := Below.trans hSz ((hCc.below hOz).mono (Nat.le_refl _)); have z3 := g3 _ hSc; have z4 := g4 _ hSc) | (go_at_call 69; refine (KZ.out _ hSa).mono ?_; rintro e wz ⟨rfl, hbz⟩; have hOz := hOa.more hbz; have hSz : SW w5 wz := Below.trans hSa (Below.mono hbz hSa.size)) | (at_builtin; refine wpList_rapp rtE rfl _ _ rfl hO rfl (bel_alloc _ _) _ (6 : Int) _ rfl (cs := #[.int .i64 6]) rfl (heap_alloc_new _ _) (by have := HLn.out; (try simp only [List.length_append, List.length_cons, List.length_nil]); omega) ?_; intro va wa hOa hCa; have hSa : SW w5 wa := Below.trans hSr ((hCa.below hO).mono (Nat.le_refl _)); have z3 := g3 _ hSa; have z4 := g4 _ hSa))
                go_ret
                exact ⟨_, rfl, ⟨by rw [HF.out]; exact hOc.own.mono hBw, Nat.le_trans hBw hSc.size⟩, hb0.trans (Below.mono hSc hBw)⟩
          | false =>
            cases mv with
            | true =>
              by_cases hez : ez = 0
              · subst hez
                have HF : Hid (okE (airE (l.take k) a) = okE [x0] ++ [8]) := Lib.hid (by rw [HE3.out]; simp [okE])
                clear HE3
                have z3 := g3 _ hSr
                have z4 := g4 _ hSr
                go_wp2_with (first | (go_at_call 69; refine (KZ.out _ hSb).mono ?_; rintro e wz ⟨rfl, hbz⟩; have hOz := hOb.more hbz; have hSz : SW w5 wz := Below.trans hSb (Below.mono hbz hSb.size)) | (at_builtin; refine wpList_rapp rtE rfl _ _ rfl hO rfl (bel_alloc _ _) _ (8 : Int) _ rfl (cs := #[.int .i64 8]) rfl (heap_alloc_new _ _) (by have := HLn.out; (try simp only [List.length_append, List.length_cons, List.length_nil]); omega) ?_; intro vb wb hOb hCb; have hSb : SW w5 wb := Below.trans hSr ((hCb.below hO).mono (Nat.le_refl _)); have z3 := g3 _ hSb; have z4 := g4 _ hSb))
                go_ret
                exact ⟨_, rfl, ⟨by rw [HF.out]; exact hOz.own.mono hBw, Nat.le_trans hBw hSz.size⟩, hb0.trans (Below.mono hSz hBw)⟩
              · have hez2 : (ez != 0) = true := by simp [hez]
                have HF : Hid (okE (airE (l.take k) a) = okE [x0] ++ [8] ++ [ez]) := Lib.hid (by rw [HE3.out]; rw [okE_one ez hez]; simp [okE])
                clear HE3 hez
                have z3 := g3 _ hSr
                have z4 := g4 _ hSr
                go_wp2_with (first | (at_builtin; refine wpList_rapp rtE rfl _ _ rfl hOz rfl (bel_alloc _ _) _ (ez : Int) _ rfl (cs := #[.int .i64 ez]) rfl (heap_alloc_new _ _) (by have := HLn.out; (try simp only [List.length_append, List.length_cons, List.length_nil]); omega) ?_; intro vc wc hOc hCc; have hSc : SW w5 wc := Below.trans hSz ((hCc.below hOz).mono (Nat.le_refl _)); have z3 := g3 _ hSc; have z4 := g4 _ hSc) | (go_at_call 69; refine (KZ.out _ hSb).mono ?_; rintro e wz ⟨rfl, hbz⟩; have hOz := hOb.more hbz; have hSz : SW w5 wz := Below.trans hSb (Below.mono hbz hSb.size)) | (at_builtin; refine wpList_rapp rtE rfl _ _ rfl hO rfl (bel_alloc _ _) _ (8 : Int) _ rfl (cs := #[.int .i64 8]) rfl (heap_alloc_new _ _) (by have := HLn.out; (try simp only [List.length_append, List.length_cons, List.length_nil]); omega) ?_; intro vb wb hOb hCb; have hSb : SW w5 wb := Below.trans hSr ((hCb.below hO).mono (Nat.le_refl _)); have z3 := g3 _ hSb; have z4 := g4 _ hSb))
                go_ret
                exact ⟨_, rfl, ⟨by rw [HF.out]; exact hOc.own.mono hBw, Nat.le_trans hBw hSc.size⟩, hb0.trans (Below.mono hSc hBw)⟩
            | false =>
              by_cases hez : ez = 0
              · subst hez
                have HF : Hid (okE (airE (l.take k) a) = okE [x0]) := Lib.hid (by rw [HE3.out]; simp [okE])
                clear HE3
                have z3 := g3 _ hSr
                have z4 := g4 _ hSr
                go_wp2_with (first | (go_at_call 69; refine (KZ.out _ hSr).mono ?_; rintro e wz ⟨rfl, hbz⟩; have hOz := hO.more hbz; have hSz : SW w5 wz := Below.trans hSr (Below.mono hbz hSr.size)))
                go_ret
                exact ⟨_, rfl, ⟨by rw [HF.out]; exact hOz.own.mono hBw, Nat.le_trans hBw hSz.size⟩, hb0.trans (Below.mono hSz hBw)⟩
              · have hez2 : (ez != 0) = true := by simp [hez]
                have HF : Hid (okE (airE (l.take k) a) = okE [x0] ++ [ez]) := Lib.hid (by rw [HE3.out]; rw [okE_one ez hez]; simp [okE])
                clear HE3 hez
                have z3 := g3 _ hSr
                have z4 := g4 _ hSr
                go_wp2_with (first | (at_builtin; refine wpList_rapp rtE rfl _ _ rfl hOz rfl (bel_alloc _ _) _ (ez : Int) _ rfl (cs := #[.int .i64 ez]) rfl (heap_alloc_new _ _) (by have := HLn.out; (try simp only [List.length_append, List.length_cons, List.length_nil]); omega) ?_; intro vc wc hOc hCc; have hSc : SW w5 wc := Below.trans hSz ((hCc.below hOz).mono (Nat.le_refl _)); have z3 := g3 _ hSc; have z4 := g4 _ hSc) | (go_at_call 69; refine (KZ.out _ hSr).mono ?_; rintro e wz ⟨rfl, hbz⟩; have hOz := hO.more hbz; have hSz : SW w5 wz := Below.trans hSr (Below.mono hbz hSr.size)))
                go_ret
                exact ⟨_, rfl, ⟨by rw [HF.out]; exact hOc.own.mono hBw, Nat.le_trans hBw hSc.size⟩, hb0.trans (Below.mono hSc hBw)⟩

end Go.Proofs.Ytmmpalnalogfnaa

/- Walk of the reference's distance. -/
namespace Go.Proofs.Ytmmpalnalogfnaa
open Go.RowKit Go.Shelf
set_option linter.unusedSimpArgs false
set_option linter.unusedVariables false

theorem town_any (l : List Air) (s : ByteArray) : (findT l s).isSome = l.any fun b => decide (b.city = s) := by
  have e : (fun b : Air => decide (b.city = s)) = fun b => eqS b.city s := by
    funext b
    unfold eqS
    rw [eqB]
  rw [e]
  unfold findT
  rw [Bool.eq_iff_iff, List.find?_isSome, List.any_eq_true]

set_option maxRecDepth 100000 in
set_option maxHeartbeats 8000000 in
theorem rdistance_any (p : PV) (i : Nat) (d : Dst) (w : World) (hp : OkP p) (hL : PlL w p) (hi : p.ds[i]? = some d) :
    Calls Try.prog 40 #[encP p, .int .i64 (i : Int)] w fun e w' => ∃ v', e = .returned v' ∧ EOwn w.heap.size w' v' (okE (dstE p.l (p.ds.take i) d)) ∧ Below w.heap.size w w' := by
  obtain ⟨A, ca, l, D, cd, ds⟩ := p
  obtain ⟨hA, hD, hla, hld⟩ := hp
  obtain ⟨hLa, hLd⟩ := hL
  dsimp only at *
  have hil := (List.getElem?_eq_some_iff.1 hi).1
  obtain ⟨bb, off, d', rfl, hgl, hka, hd⟩ := hLd.at hil
  rw [hi] at hka
  obtain rfl := Option.some.inj hka
  have hb1 := bel_alloc w (.cells #[.slice A l.length ca, .slice (some ⟨bb, off, none⟩) ds.length cd] placesT)
  have hb2 := bel_alloc (w.alloc (.cells #[.slice A l.length ca, .slice (some ⟨bb, off, none⟩) ds.length cd] placesT)) (.cells #[.string d.f, .string d.t, .int .i64 d.m] dstT)
  have p0 := bel_cell hb2 ((cells_new w #[.slice A l.length ca, .slice (some ⟨bb, off, none⟩) ds.length cd] placesT 0).trans (show _ = some _ from rfl))
  have p1 := bel_cell hb2 ((cells_new w #[.slice A l.length ca, .slice (some ⟨bb, off, none⟩) ds.length cd] placesT 1).trans (show _ = some _ from rfl))
  have q0 := (cells_new (w.alloc (.cells #[.slice A l.length ca, .slice (some ⟨bb, off, none⟩) ds.length cd] placesT)) #[.string d.f, .string d.t, .int .i64 d.m] dstT 0).trans (show _ = some _ from rfl)
  have q1 := (cells_new (w.alloc (.cells #[.slice A l.length ca, .slice (some ⟨bb, off, none⟩) ds.length cd] placesT)) #[.string d.f, .string d.t, .int .i64 d.m] dstT 1).trans (show _ = some _ from rfl)
  have q2 := (cells_new (w.alloc (.cells #[.slice A l.length ca, .slice (some ⟨bb, off, none⟩) ds.length cd] placesT)) #[.string d.f, .string d.t, .int .i64 d.m] dstT 2).trans (show _ = some _ from rfl)
  rw [World.size_alloc] at q0 q1 q2
  have hb0 := hb1.trans (hb2.mono hb1.size)
  have hLa5 := hLa.more hb0
  have hLd5 := hLd.more hb0
  have hBw := hb0.size
  have i1 : (i : Int) < (ds.length : Int) := by omega
  obtain ⟨a0, a1, a2⟩ := hd
  have HAE : Hid (dstE l (ds.take i) d = [if l.any (fun b => decide (b.city = d.f)) && l.any (fun b => decide (b.city = d.t)) then 0 else 14, if (ds.take i).any (fun x => (decide (x.f = d.f) && decide (x.t = d.t)) || (decide (x.f = d.t) && decide (x.t = d.f))) then 6 else 0, if useB d && !decide (d.f = d.t) then 0 else 2]) := Lib.hid rfl
  go_enter Try.func40, Try.ntmps40
  go_upto_region 3 with fail
  clear a0 a1 a2 hLa hLd hgl hb1 hb2
  generalize hw5 : (w.alloc (.cells #[.slice A l.length ca, .slice (some ⟨bb, off, none⟩) ds.length cd] placesT)).alloc (.cells #[.string d.f, .string d.t, .int .i64 d.m] dstT) = w5 at *
  clear hw5
  have f0 := bel_get p0
  have f1 := bel_get p1
  have g0 := bel_get q0
  have g1 := bel_get q1
  have g2 := bel_get q2
  have KT : Hid (∀ s W, SW w5 W → Calls Try.prog 70 #[.agg #[.slice A l.length ca, .slice (some ⟨bb, off, none⟩) ds.length cd], .string s] W fun e w' => ∃ y : Air, e = .returned (.tuple #[.agg #[.string y.code, .string y.city, .string y.land, .int .i64 y.off, .slice y.A y.shs.length y.c], .bool (l.any fun b => decide (b.city = s))]) ∧ SW w5 w') :=
    Lib.hid (fun s W hW => (rtown_any ⟨A, ca, l, some ⟨bb, off, none⟩, cd, ds⟩ s W hla (hLa5.more hW)).mono (by rintro e w' ⟨rfl, hb⟩; exact ⟨(findT l s).getD airZ, by rw [← town_any], Below.trans hW (hb.mono hW.size)⟩))
  have hS0 : SW w5 w5 := Below.refl _ _
  have HU2 := Lib.hid (fun W => rusable_any d W)
  have HED := Lib.hid (eqB d.f d.t)
  rw [← HED.out] at HAE
  obtain ⟨kf, hkf⟩ : ∃ b, b = (l.any fun b => decide (b.city = d.f)) := ⟨_, rfl⟩
  obtain ⟨kt, hkt⟩ : ∃ b, b = (l.any fun b => decide (b.city = d.t)) := ⟨_, rfl⟩
  have KF := KT.out d.f
  have KG := KT.out d.t
  rw [← hkf] at KF HAE
  rw [← hkt] at KG HAE
  have KF := Lib.hid KF
  have KG := Lib.hid KG
  generalize useB d = us at *
  clear hLa5 hi KT hkf hkt hla
  have z0 := f0 _ hS0
  have z1 := f1 _ hS0
  have z2 := g0 _ hS0
  have z3 := g1 _ hS0
  go_upto_region 5 with (first
    | (go_at_call 70; refine (KG.out _ hS2).mono ?_; rintro e w3 ⟨y3, rfl, hS3⟩; have hS4 := Below.alloc hS3 hS3.size (.cells #[.string y3.code, .string y3.city, .string y3.land, .int .i64 y3.off, .slice y3.A y3.shs.length y3.c] airT))
    | (go_at_call 70; refine (KF.out _ hS0).mono ?_; rintro e w1 ⟨y1, rfl, hS1⟩; have hS2 : SW w5 (w1.alloc (.cells #[.string y1.code, .string y1.city, .string y1.land, .int .i64 y1.off, .slice y1.A y1.shs.length y1.c] airT)) := Below.alloc hS1 hS1.size _; have z0 := f0 _ hS2; have z1 := f1 _ hS2; have z2 := g0 _ hS2; have z3 := g1 _ hS2))
  have hS4 : SW w5 (w3.alloc (.cells #[.string y3.code, .string y3.city, .string y3.land, .int .i64 y3.off, .slice y3.A y3.shs.length y3.c] airT)) := Below.alloc hS3 hS3.size _
  generalize w3.alloc (.cells #[.string y3.code, .string y3.city, .string y3.land, .int .i64 y3.off, .slice y3.A y3.shs.length y3.c] airT) = w6 at *
  clear KF KG z0 z1 z2 z3
  go_cut [38] from 33 (fun v wx => v = .bool (!(kf && kt)) ∧ wx = w6)
  case first =>
    cases kf
    · go_wp2
      go_meet
      exact ⟨rfl, rfl⟩
    · go_wp2
      go_meet
      exact ⟨by cases kt <;> rfl, rfl⟩
  case rest =>
  obtain ⟨rfl, hwc⟩ := hcut
  obtain rfl := hwc.symm
  go_upto_if 38 with fail
  go_cut [5] from 33 (fun v wx => Hid (EOwn w5.heap.size wx v (okE [if (kf && kt) = true then 0 else 14]) ∧ SW w5 wx))
  case first =>
    cases hkk : (kf && kt) with
    | false =>
      have hN : EOwn w5.heap.size w6 (.slice none 0 0) [] := ROwn.nil hS4.size
      go_wp2_with (at_builtin; refine wpList_rapp rtE rfl _ _ rfl hN rfl (bel_alloc _ _) _ 14 _ rfl (cs := #[.int .i64 14]) rfl (heap_alloc_new _ _) (by simp) ?_; intro v' w' hO hC)
      go_meet
      exact Lib.hid ⟨by rw [hkk]; exact hO, Below.trans hS4 ((hC.below hN).mono (Nat.le_refl _))⟩
    | true =>
      go_wp2
      go_meet
      exact Lib.hid ⟨by rw [hkk]; exact ROwn.nil hS4.size, hS4⟩
  case rest =>
    have HC := Lib.hid hcut.out.1
    have hS9 : SW w5 wc := hcut.out.2
    generalize (if (kf && kt) = true then (0 : Int) else 14) = x0 at *
    clear hcut hS4
    go_wp2
    go_loopw [11, 12] (fun v7 vi wr => ∃ (k : Nat) (tw : Bool), k ≤ i ∧ vi = .int .i64 k ∧ v7 = .bool tw ∧ Hid (tw = (ds.take k).any (fun x => (decide (x.f = d.f) && decide (x.t = d.t)) || (decide (x.f = d.t) && decide (x.t = d.f)))) ∧ SW wc wr) (fun _ vi _ => i - (intOf vi).toNat)
    case atStart => exact ⟨0, false, Nat.zero_le _, rfl, rfl, Lib.hid rfl, Below.refl _ _⟩
    case round =>
      obtain ⟨k, tw, hk, rfl, rfl, HT, hS⟩ := hrel
      have hSr : SW w5 wr := Below.trans hS9 (Below.mono hS hS9.size)
      by_cases hlt : k < i
      · obtain ⟨bb', off', x, e, hgl', hkx, hx⟩ := (hLd5.more hSr).at (show k < ds.length by omega)
        cases e
        have HT2 := Lib.hid (any_take (fun x => (decide (x.f = d.f) && decide (x.t = d.t)) || (decide (x.f = d.t) && decide (x.t = d.f))) ds k x hkx)
        have i2 : (k : Int) < (i : Int) := by omega
        have i3 : (k : Int) < (ds.length : Int) := by omega
        have e1 := eqB x.f d.f
        have e2 := eqB x.t d.t
        have e3 := eqB x.f d.t
        have e4 := eqB x.t d.f
        obtain ⟨c0, c1, c2⟩ := hx
        have z0 := f0 _ hSr
        have z1 := f1 _ hSr
        have hSx : SW w5 (wr.alloc (.cells #[.string x.f, .string x.t, .int .i64 x.m] dstT)) := Below.alloc hSr hSr.size _
        have z2 := g0 _ hSx
        have z3 := g1 _ hSx
        have hSy : SW wc (wr.alloc (.cells #[.string x.f, .string x.t, .int .i64 x.m] dstT)) := Below.alloc hS hS.size _
        clear hkx hgl'
        cases tw with
        | true =>
          have HT3 : Hid (true = (ds.take (k + 1)).any (fun x => (decide (x.f = d.f) && decide (x.t = d.t)) || (decide (x.f = d.t) && decide (x.t = d.f)))) := Lib.hid (by rw [HT2.out, ← HT.out, ← e1, ← e2, ← e3, ← e4]; simp)
          clear HT2 e1 e2 e3 e4
          go_wp2
          go_roundw
          case rel => exact ⟨k + 1, true, by omega, by go_num, rfl, HT3, hSy⟩
          case measure => simp [intOf]; omega
        | false =>
          cases hff : (x.f.toList == d.f.toList) with
          | true =>
            cases htt : (x.t.toList == d.t.toList) with
            | true =>
              have HT3 : Hid (true = (ds.take (k + 1)).any (fun x => (decide (x.f = d.f) && decide (x.t = d.t)) || (decide (x.f = d.t) && decide (x.t = d.f)))) := Lib.hid (by rw [HT2.out, ← HT.out, ← e1, ← e2, ← e3, ← e4, hff, htt]; simp)
              clear HT2 e1 e2 e3 e4
              go_wp2
              go_roundw
              case rel => exact ⟨k + 1, true, by omega, by go_num, rfl, HT3, hSy⟩
              case measure => simp [intOf]; omega
            | false =>
              cases hft : (x.f.toList == d.t.toList) with
              | true =>
                have HT3 : Hid ((x.t.toList == d.f.toList) = (ds.take (k + 1)).any (fun x => (decide (x.f = d.f) && decide (x.t = d.t)) || (decide (x.f = d.t) && decide (x.t = d.f)))) := Lib.hid (by rw [HT2.out, ← HT.out, ← e1, ← e2, ← e3, ← e4, hff, htt, hft]; simp)
                clear HT2 e1 e2 e3 e4
                go_wp2
                go_roundw
                case rel => exact ⟨k + 1, (x.t.toList == d.f.toList), by omega, by go_num, rfl, HT3, hSy⟩
                case measure => simp [intOf]; omega
              | false =>
                have HT3 : Hid (false = (ds.take (k + 1)).any (fun x => (decide (x.f = d.f) && decide (x.t = d.t)) || (decide (x.f = d.t) && decide (x.t = d.f)))) := Lib.hid (by rw [HT2.out, ← HT.out, ← e1, ← e2, ← e3, ← e4, hff, htt, hft]; simp)
                clear HT2 e1 e2 e3 e4
                go_wp2
                go_roundw
                case rel => exact ⟨k + 1, false, by omega, by go_num, rfl, HT3, hSy⟩
                case measure => simp [intOf]; omega
          | false =>
            cases hft : (x.f.toList == d.t.toList) with
            | true =>
              have HT3 : Hid ((x.t.toList == d.f.toList) = (ds.take (k + 1)).any (fun x => (decide (x.f = d.f) && decide (x.t = d.t)) || (decide (x.f = d.t) && decide (x.t = d.f)))) := Lib.hid (by rw [HT2.out, ← HT.out, ← e1, ← e2, ← e3, ← e4, hff, hft]; simp)
              clear HT2 e1 e2 e3 e4
              go_wp2
              go_roundw
              case rel => exact ⟨k + 1, (x.t.toList == d.f.toList), by omega, by go_num, rfl, HT3, hSy⟩
              case measure => simp [intOf]; omega
            | false =>
              have HT3 : Hid (false = (ds.take (k + 1)).any (fun x => (decide (x.f = d.f) && decide (x.t = d.t)) || (decide (x.f = d.t) && decide (x.t = d.f)))) := Lib.hid (by rw [HT2.out, ← HT.out, ← e1, ← e2, ← e3, ← e4, hff, hft]; simp)
              clear HT2 e1 e2 e3 e4
              go_wp2
              go_roundw
              case rel => exact ⟨k + 1, false, by omega, by go_num, rfl, HT3, hSy⟩
              case measure => simp [intOf]; omega
      · have hki : k = i := by omega
        subst hki
        have hO := HC.out.more hS
        have HLn : Hid ((okE [x0]).length ≤ 1) := Lib.hid (by unfold okE; exact List.length_filter_le _ _)
        rw [← HT.out] at HAE
        have z2 := g0 _ hSr
        have z3 := g1 _ hSr
        have z4 := g2 _ hSr
        clear HT HC hLd5 hS9
        have HE3 : Hid (okE (dstE l (ds.take k) d) = okE [x0] ++ okE [if tw = true then 6 else 0] ++ okE [if (us && !(d.f.toList == d.t.toList)) = true then 0 else 2]) := Lib.hid (by rw [HAE.out, ← okE_app, ← okE_app]; rfl)
        clear HAE
        cases tw with
        | true =>
          cases us with
          | false =>
            have HF : Hid (okE (dstE l (ds.take k) d) = okE [x0] ++ [6] ++ [2]) := Lib.hid (by rw [HE3.out]; simp [okE])
            clear HE3
            go_wp2_with (first | (at_builtin; refine wpList_rapp rtE rfl _ _ rfl hOu rfl (bel_alloc _ _) _ (2 : Int) _ rfl (cs := #[.int .i64 2]) rfl (heap_alloc_new _ _) (by have := HLn.out; (try simp only [List.length_append, List.length_cons, List.length_nil]); omega) ?_; intro vb wb hOb hCb; have hSb : SW w5 wb := Below.trans hSu ((hCb.below hOu).mono (Nat.le_refl _))) | (go_at_call 71; refine (HU2.out _).mono ?_; rintro e wu ⟨rfl, hbu⟩; have hOu := hOa.more hbu; have hSu : SW w5 wu := Below.trans hSa (Below.mono hbu hSa.size); have z2 := g0 _ hSu; have z3 := g1 _ hSu) | (at_builtin; refine wpList_rapp rtE rfl _ _ rfl hO rfl (bel_alloc _ _) _ (6 : Int) _ rfl (cs := #[.int .i64 6]) rfl (heap_alloc_new _ _) (by have := HLn.out; omega) ?_; intro va wa hOa hCa; have hSa : SW w5 wa := Below.trans hSr ((hCa.below hO).mono (Nat.le_refl _)); have z2 := g0 _ hSa; have z3 := g1 _ hSa; have z4 := g2 _ hSa))
            go_ret
            exact ⟨_, rfl, ⟨by rw [HF.out]; exact hOb.own.mono hBw, Nat.le_trans hBw hSb.size⟩, hb0.trans (Below.mono hSb hBw)⟩
          | true =>
            cases hfe : (d.f.toList == d.t.toList) with
            | true =>
              have HF : Hid (okE (dstE l (ds.take k) d) = okE [x0] ++ [6] ++ [2]) := Lib.hid (by rw [HE3.out, hfe]; simp [okE])
              clear HE3
              go_wp2_with (first | (at_builtin; refine wpList_rapp rtE rfl _ _ rfl hOu rfl (bel_alloc _ _) _ (2 : Int) _ rfl (cs := #[.int .i64 2]) rfl (heap_alloc_new _ _) (by have := HLn.out; (try simp only [List.length_append, List.length_cons, List.length_nil]); omega) ?_; intro vb wb hOb hCb; have hSb : SW w5 wb := Below.trans hSu ((hCb.below hOu).mono (Nat.le_refl _))) | (go_at_call 71; refine (HU2.out _).mono ?_; rintro e wu ⟨rfl, hbu⟩; have hOu := hOa.more hbu; have hSu : SW w5 wu := Below.trans hSa (Below.mono hbu hSa.size); have z2 := g0 _ hSu; have z3 := g1 _ hSu) | (at_builtin; refine wpList_rapp rtE rfl _ _ rfl hO rfl (bel_alloc _ _) _ (6 : Int) _ rfl (cs := #[.int .i64 6]) rfl (heap_alloc_new _ _) (by have := HLn.out; omega) ?_; intro va wa hOa hCa; have hSa : SW w5 wa := Below.trans hSr ((hCa.below hO).mono (Nat.le_refl _)); have z2 := g0 _ hSa; have z3 := g1 _ hSa; have z4 := g2 _ hSa))
              go_ret
              exact ⟨_, rfl, ⟨by rw [HF.out]; exact hOb.own.mono hBw, Nat.le_trans hBw hSb.size⟩, hb0.trans (Below.mono hSb hBw)⟩
            | false =>
              have HF : Hid (okE (dstE l (ds.take k) d) = okE [x0] ++ [6]) := Lib.hid (by rw [HE3.out, hfe]; simp [okE])
              clear HE3
              go_wp2_with (first | (go_at_call 71; refine (HU2.out _).mono ?_; rintro e wu ⟨rfl, hbu⟩; have hOu := hOa.more hbu; have hSu : SW w5 wu := Below.trans hSa (Below.mono hbu hSa.size); have z2 := g0 _ hSu; have z3 := g1 _ hSu) | (at_builtin; refine wpList_rapp rtE rfl _ _ rfl hO rfl (bel_alloc _ _) _ (6 : Int) _ rfl (cs := #[.int .i64 6]) rfl (heap_alloc_new _ _) (by have := HLn.out; omega) ?_; intro va wa hOa hCa; have hSa : SW w5 wa := Below.trans hSr ((hCa.below hO).mono (Nat.le_refl _)); have z2 := g0 _ hSa; have z3 := g1 _ hSa; have z4 := g2 _ hSa))
              go_ret
              exact ⟨_, rfl, ⟨by rw [HF.out]; exact hOu.own.mono hBw, Nat.le_trans hBw hSu.size⟩, hb0.trans (Below.mono hSu hBw)⟩
        | false =>
          cases us with
          | false =>
            have HF : Hid (okE (dstE l (ds.take k) d) = okE [x0] ++ [2]) := Lib.hid (by rw [HE3.out]; simp [okE])
            clear HE3
            go_wp2_with (first | (at_builtin; refine wpList_rapp rtE rfl _ _ rfl hOu rfl (bel_alloc _ _) _ (2 : Int) _ rfl (cs := #[.int .i64 2]) rfl (heap_alloc_new _ _) (by have := HLn.out; (try simp only [List.length_append, List.length_cons, List.length_nil]); omega) ?_; intro vb wb hOb hCb; have hSb : SW w5 wb := Below.trans hSu ((hCb.below hOu).mono (Nat.le_refl _))) | (go_at_call 71; refine (HU2.out _).mono ?_; rintro e wu ⟨rfl, hbu⟩; have hOu := hO.more hbu; have hSu : SW w5 wu := Below.trans hSr (Below.mono hbu hSr.size); have z2 := g0 _ hSu; have z3 := g1 _ hSu))
            go_ret
            exact ⟨_, rfl, ⟨by rw [HF.out]; exact hOb.own.mono hBw, Nat.le_trans hBw hSb.size⟩, hb0.trans (Below.mono hSb hBw)⟩
          | true =>
            cases hfe : (d.f.toList == d.t.toList) with
            | true =>
              have HF : Hid (okE (dstE l (ds.take k) d) = okE [x0] ++ [2]) := Lib.hid (by rw [HE3.out, hfe]; simp [okE])
              clear HE3
              go_wp2_with (first | (at_builtin; refine wpList_rapp rtE rfl _ _ rfl hOu rfl (bel_alloc _ _) _ (2 : Int) _ rfl (cs := #[.int .i64 2]) rfl (heap_alloc_new _ _) (by have := HLn.out; (try simp only [List.length_append, List.length_cons, List.length_nil]); omega) ?_; intro vb wb hOb hCb; have hSb : SW w5 wb := Below.trans hSu ((hCb.below hOu).mono (Nat.le_refl _))) | (go_at_call 71; refine (HU2.out _).mono ?_; rintro e wu ⟨rfl, hbu⟩; have hOu := hO.more hbu; have hSu : SW w5 wu := Below.trans hSr (Below.mono hbu hSr.size); have z2 := g0 _ hSu; have z3 := g1 _ hSu))
              go_ret
              exact ⟨_, rfl, ⟨by rw [HF.out]; exact hOb.own.mono hBw, Nat.le_trans hBw hSb.size⟩, hb0.trans (Below.mono hSb hBw)⟩
            | false =>
              have HF : Hid (okE (dstE l (ds.take k) d) = okE [x0]) := Lib.hid (by rw [HE3.out, hfe]; simp [okE])
              clear HE3
              go_wp2_with (first | (go_at_call 71; refine (HU2.out _).mono ?_; rintro e wu ⟨rfl, hbu⟩; have hOu := hO.more hbu; have hSu : SW w5 wu := Below.trans hSr (Below.mono hbu hSr.size); have z2 := g0 _ hSu; have z3 := g1 _ hSu))
              go_ret
              exact ⟨_, rfl, ⟨by rw [HF.out]; exact hOu.own.mono hBw, Nat.le_trans hBw hSu.size⟩, hb0.trans (Below.mono hSu hBw)⟩

end Go.Proofs.Ytmmpalnalogfnaa

/- Walks of the reference: digits, Decimal (a copy of TextG that stands without the rest of stage 1). -/
namespace Go.Proofs.Ytmmpalnalogfnaa
open Go.RowKit
set_option linter.unusedSimpArgs false
set_option linter.unusedVariables false

def tenA : ByteArray := ⟨#[48, 49, 50, 51, 52, 53, 54, 55, 56, 57]⟩
theorem ten_all : ∀ n : Fin 10, (tenA.extract n.val (n.val + 1)).data.toList = [UInt8.ofNat (48 + n.val)] := by decide +kernel
theorem ten_cut (n m : Nat) (h : n < 10) (hm : m = n + 1) : (⟨#[48, 49, 50, 51, 52, 53, 54, 55, 56, 57]⟩ : ByteArray).extract n m = ⟨[UInt8.ofNat (48 + n)].toArray⟩ := by
  subst hm
  exact WideShapes.bytes_inj (ten_all ⟨n, h⟩)

theorem quiet_ex {P : Program} {f : FuncId} {args : Array Value} {w : World} {n : Nat} {v : Value} (h : ∀ W, Calls P f args W fun e w' => e = .returned v ∧ ∃ m, w' = W.drewN m) :
    Calls P f args (w.drewN n) fun e w'' => e = .returned v ∧ ∃ m, w'' = w.drewN m :=
  (h _).mono fun _ _ ⟨he, m, hm⟩ => ⟨he, n + m, by rw [hm, World.drewN_drewN]⟩
theorem dec_len (u : Nat) (h : u ≤ 9223372036854775807) : (⟨(Lib.decDigits u).toArray⟩ : ByteArray).size ≤ 21 := by
  have h1 := Lib.itoa_length_le (u : Int) (by omega) (by omega)
  have h2 : Lib.itoa (u : Int) = Lib.decDigits u := by
    unfold Lib.itoa
    rw [if_neg (by omega)]
    congr 1
  rw [h2] at h1
  simpa [ByteArray.size] using h1
def U64 (n : Nat) : Prop := n < 18446744073709551616
theorem u64_div (n : Nat) (h : U64 n) : IntKind.u64.wrap ((n : Int) / 10) = (n : Int) / 10 := by rw [IntKind.wrap_u64]; unfold U64 at h; omega

set_option maxRecDepth 100000 in
set_option maxHeartbeats 1000000 in
theorem rdigits_any : ∀ (n : Nat) (w : World), U64 n →
    Calls Try.prog 43 #[.int .u64 n] w fun e w' => e = .returned (.string ⟨(Lib.decDigits n).toArray⟩) ∧ ∃ k, w' = w.drewN k
  | n, w, hn => by
    by_cases h : n < 10
    · have HD : Hid (Lib.decDigits n = [UInt8.ofNat (48 + n)]) := Lib.hid (decDigits_small n h)
      have b1 : (n : Int) < 10 := by omega
      have HC := Lib.hid (ten_cut n (n + 1) h rfl)
      go_enter Try.func43, Try.ntmps43
      go_wp2
      go_ret
      exact ⟨by rw [HD.out, ← HC.out]; rfl, 0, rfl⟩
    · have ih : ∀ w, Calls Try.prog 43 #[.int .u64 ((n : Int) / 10)] w fun e w' => e = .returned (.string ⟨(Lib.decDigits (n / 10)).toArray⟩) ∧ ∃ k, w' = w.drewN k := by
        intro w
        rw [show ((n : Int) / 10) = ((n / 10 : Nat) : Int) from by omega]
        exact rdigits_any (n / 10) w (by unfold U64 at hn ⊢; omega)
      have HIH := Lib.hid ih
      have e1 := u64_div n hn
      have e2 : ((n : Int)).tmod 10 = (n : Int) % 10 := Int.tmod_eq_emod_of_nonneg (by omega)
      have e3 : IntKind.u64.wrap ((n : Int) % 10 + 1) = (n : Int) % 10 + 1 := by rw [IntKind.wrap_u64]; omega
      have HF : Hid ((⟨(Lib.decDigits (n / 10)).toArray⟩ : ByteArray) ++ (⟨#[48, 49, 50, 51, 52, 53, 54, 55, 56, 57]⟩ : ByteArray).extract ((n : Int) % 10).toNat ((n : Int) % 10 + 1).toNat = ⟨(Lib.decDigits n).toArray⟩) := Lib.hid (by
        rw [ten_cut ((n : Int) % 10).toNat ((n : Int) % 10 + 1).toNat (by omega) (by omega), decDigits_step n (by omega)]
        apply WideShapes.bytes_inj
        rw [show ((n : Int) % 10).toNat = n % 10 from by omega]
        simp)
      have hadd := fun W => run_string_add_sum (P := Try.prog) (w := W) (⟨(Lib.decDigits (n / 10)).toArray⟩ : ByteArray) ((⟨#[48, 49, 50, 51, 52, 53, 54, 55, 56, 57]⟩ : ByteArray).extract ((n : Int) % 10).toNat ((n : Int) % 10 + 1).toNat) (by
        have h1 := dec_len (n / 10) (by unfold U64 at hn; omega)
        have h2 : ((⟨#[48, 49, 50, 51, 52, 53, 54, 55, 56, 57]⟩ : ByteArray).extract ((n : Int) % 10).toNat ((n : Int) % 10 + 1).toNat).size ≤ 10 := by
          rw [ByteArray.size_extract]; show min _ 10 - _ ≤ 10; omega
        omega)
      clear ih hn
      have b1 : ¬ (n : Int) < 10 := by omega
      have c1 : (0 : Int) ≤ (n : Int) % 10 := by omega
      have c2 : (n : Int) % 10 < 10 := by omega
      have hsl := fun W => run_slice_string (P := Try.prog) W 9 (⟨#[48, 49, 50, 51, 52, 53, 54, 55, 56, 57]⟩ : ByteArray) .u64 .u64 ((n : Int) % 10) ((n : Int) % 10 + 1) Try.underlying9 c1 (by omega) (by show (n : Int) % 10 + 1 ≤ 10; omega)
      go_enter Try.func43, Try.ntmps43
      go_wp2_with (fail)
      go_quiet ((go_at_call 43; exact quiet_ex HIH.out))
      go_wp2
      go_ret
      exact ⟨by rw [← HF.out]; rfl, _, rfl⟩
termination_by n => n
decreasing_by omega

theorem neg_arg (n : Int) (h0 : -9223372036854775808 ≤ n) (hn : n < 0) : IntKind.u64.wrap (IntKind.u64.wrap (wrap64 (-wrap64 (n + 1))) + 1) = (n.natAbs : Int) := by
  have e1 : wrap64 (n + 1) = n + 1 := by unfold wrap64; omega
  have e2 : wrap64 (-(n + 1)) = -(n + 1) := by unfold wrap64; omega
  rw [e1, e2, IntKind.wrap_u64, IntKind.wrap_u64]
  omega
theorem pos_arg (n : Int) (h1 : n ≤ 9223372036854775807) (hn : ¬ n < 0) : IntKind.u64.wrap n = (n.toNat : Int) := by
  rw [IntKind.wrap_u64]
  omega
set_option maxRecDepth 100000 in
set_option maxHeartbeats 1000000 in
theorem rdecimal_any (n : Int) (w : World) (h0 : -9223372036854775808 ≤ n) (h1 : n ≤ 9223372036854775807) :
    Calls Try.prog 15 #[.int .i64 n] w fun e w' => e = .returned (.string ⟨(Lib.itoa n).toArray⟩) ∧ ∃ k, w' = w.drewN k := by
  by_cases hn : n < 0
  · have HC : Hid (∀ w, Calls Try.prog 43 #[.int .u64 (IntKind.u64.wrap (IntKind.u64.wrap (wrap64 (-wrap64 (n + 1))) + 1))] w fun e w' => e = .returned (.string ⟨(Lib.decDigits n.natAbs).toArray⟩) ∧ ∃ k, w' = w.drewN k) := Lib.hid (by
      intro w; rw [neg_arg n h0 hn]; exact rdigits_any n.natAbs w (by unfold U64; omega))
    have HF : Hid ((⟨#[45]⟩ : ByteArray) ++ (⟨(Lib.decDigits n.natAbs).toArray⟩ : ByteArray) = ⟨(Lib.itoa n).toArray⟩) := Lib.hid (by
      apply WideShapes.bytes_inj
      unfold Lib.itoa
      rw [if_pos hn]
      simp)
    have hlen : (⟨#[45]⟩ : ByteArray).size + (⟨(Lib.decDigits n.natAbs).toArray⟩ : ByteArray).size ≤ 9223372036854775807 := by
      have h2 := Lib.itoa_length_le n h0 h1
      unfold Lib.itoa at h2
      rw [if_pos hn] at h2
      have h3 : (⟨(Lib.decDigits n.natAbs).toArray⟩ : ByteArray).size = (Lib.decDigits n.natAbs).length := by simp [ByteArray.size]
      have h4 : (⟨#[45]⟩ : ByteArray).size = 1 := rfl
      simp only [List.length_cons] at h2
      omega
    have hadd := fun W => run_string_add_sum (P := Try.prog) (w := W) (⟨#[45]⟩ : ByteArray) (⟨(Lib.decDigits n.natAbs).toArray⟩ : ByteArray) hlen
    clear h0 h1 hlen
    go_enter Try.func15, Try.ntmps15
    go_wp2_with (go_at_call 43; refine (HC.out _).mono ?_; rintro e w' ⟨rfl, k, rfl⟩)
    go_ret
    exact ⟨by rw [← HF.out]; rfl, k, rfl⟩
  · have HC : Hid (∀ w, Calls Try.prog 43 #[.int .u64 (IntKind.u64.wrap n)] w fun e w' => e = .returned (.string ⟨(Lib.decDigits n.toNat).toArray⟩) ∧ ∃ k, w' = w.drewN k) := Lib.hid (by
      intro w; rw [pos_arg n h1 hn]; exact rdigits_any n.toNat w (by unfold U64; omega))
    have HF : Hid ((⟨(Lib.decDigits n.toNat).toArray⟩ : ByteArray) = ⟨(Lib.itoa n).toArray⟩) := Lib.hid (by
      unfold Lib.itoa
      rw [if_neg hn])
    clear h0 h1
    go_enter Try.func15, Try.ntmps15
    go_wp2_with (go_at_call 43; refine (HC.out _).mono ?_; rintro e w' ⟨rfl, k, rfl⟩)
    go_ret
    exact ⟨by rw [← HF.out]; rfl, k, rfl⟩
end Go.Proofs.Ytmmpalnalogfnaa

/- Walk of the reference's Check of places. -/
namespace Go.Proofs.Ytmmpalnalogfnaa
open Go.RowKit Go.Shelf
set_option linter.unusedSimpArgs false
set_option linter.unusedVariables false

theorem rdec_small (k : Nat) (h : k < 100) (w : World) : Calls Try.prog 15 #[.int .i64 (k : Int)] w fun e w' => e = .returned (.string (decA k)) ∧ Below w.heap.size w w' :=
  (rdecimal_any (k : Int) w (by omega) (by omega)).mono (by rintro e w' ⟨rfl, n, rfl⟩; exact ⟨rfl, below_drewN (Below.refl _ _) n⟩)
def tag (s : ByteArray) (es : List Int) : List Flt := es.map fun e => (e, s)
theorem tag_succ (s : ByteArray) (es : List Int) (k : Nat) (h : k < es.length) : tag s (es.take (k + 1)) = tag s (es.take k) ++ [(es[k], s)] := by
  unfold tag
  rw [← List.take_append_getElem h, List.map_append]
  rfl
theorem okE_le (es : List Int) : (okE es).length ≤ es.length := List.length_filter_le _ _
theorem airE_len (l : List Air) (a : Air) : (airE l a).length = 4 := rfl
theorem dstE_len (l : List Air) (L : List Dst) (d : Dst) : (dstE l L d).length = 3 := rfl

set_option maxRecDepth 100000 in
set_option maxHeartbeats 16000000 in
theorem rcheck6_any (p : PV) (w : World) (hp : OkP p) (hL : PlL w p) :
    Calls Try.prog 13 #[encP p] w fun e w' => ∃ v', e = .returned v' ∧ FOwn w.heap.size w' v' (chkP p) ∧ Below w.heap.size w w' := by
  have hb0 := bel_alloc w (.cells #[.slice p.A p.l.length p.ca, .slice p.D p.ds.length p.cd] placesT)
  have q0 := (cells_new w #[.slice p.A p.l.length p.ca, .slice p.D p.ds.length p.cd] placesT 0).trans (show _ = some _ from rfl)
  have q1 := (cells_new w #[.slice p.A p.l.length p.ca, .slice p.D p.ds.length p.cd] placesT 1).trans (show _ = some _ from rfl)
  have hL5 := hL.more hb0
  go_enter Try.func13, Try.ntmps13
  go_wp2
  generalize hw5 : w.alloc (.cells #[.slice p.A p.l.length p.ca, .slice p.D p.ds.length p.cd] placesT) = w5 at *
  clear hw5
  have y0 := bel_get q0
  have y1 := bel_get q1
  have KA : Hid (∀ (i : Nat) (a : Air) W, SW w5 W → p.l[i]? = some a → Calls Try.prog 39 #[.agg #[.slice p.A p.l.length p.ca, .slice p.D p.ds.length p.cd], .int .i64 (i : Int)] W fun e w' => ∃ v', e = .returned v' ∧ EOwn W.heap.size w' v' (okE (airE (p.l.take i) a)) ∧ Below W.heap.size W w') := Lib.hid (fun i a W hW hi => rairport_any p i a W hp (hL5.more hW) hi)
  have KD : Hid (∀ (i : Nat) (d : Dst) W, SW w5 W → p.ds[i]? = some d → Calls Try.prog 40 #[.agg #[.slice p.A p.l.length p.ca, .slice p.D p.ds.length p.cd], .int .i64 (i : Int)] W fun e w' => ∃ v', e = .returned v' ∧ EOwn W.heap.size w' v' (okE (dstE p.l (p.ds.take i) d)) ∧ Below W.heap.size W w') := Lib.hid (fun i d W hW hi => rdistance_any p i d W hp (hL5.more hW) hi)
  have hla := hp.la
  have hld := hp.ld
  have HC : Hid (chkP p = airF p.l p.l.length ++ dstF p.l p.ds p.ds.length) := Lib.hid rfl
  have HN : Hid (FOwn w5.heap.size w5 (.slice none 0 0) (airF p.l 0)) := Lib.hid (ROwn.nil (Nat.le_refl _))
  clear hL hL5 hp
  go_loopg [3, 4] p.l.length (fun kx v3 vi wr => ∃ (v : Value) (i : Nat), v = v3 ∧ vi = .int .i64 i ∧ i + kx = p.l.length ∧ Hid (FOwn w5.heap.size wr v (airF p.l i) ∧ SW w5 wr))
  case atStart => exact ⟨_, 0, rfl, rfl, by omega, Lib.hid ⟨HN.out, Below.refl _ _⟩⟩
  case round =>
    obtain ⟨v, i, rfl, rfl, hik, HH⟩ := hrel
    have HIK := Lib.hid hik
    have hSr : SW w5 wr := HH.out.2
    have z0 := y0 _ hSr
    have z1 := y1 _ hSr
    by_cases hlt : i < p.l.length
    · clear hik
      obtain ⟨a, hia⟩ : ∃ a, p.l[i]? = some a := ⟨_, List.getElem?_eq_getElem hlt⟩
      have i2 : (i : Int) < (p.l.length : Int) := by omega
      have KAi := Lib.hid (KA.out i a wr hSr hia)
      have HS := Lib.hid (airF_succ p.l i a hia)
      have HFL : Hid ((airF p.l i).length ≤ 1000) := Lib.hid (by have := airF_le p.l i; omega)
      have HEL : Hid ((okE (airE (p.l.take i) a)).length ≤ 4) := Lib.hid (Nat.le_trans (okE_le _) (by rw [airE_len]; omega))
      have hpk : pick (airW ++ decA i) (airE (p.l.take i) a) = tag (airW ++ decA i) (okE (airE (p.l.take i) a)) := rfl
      rw [hpk] at HS
      clear hia hpk
      generalize okE (airE (p.l.take i) a) = es at *
      go_wp2_with (go_at_call 39; refine KAi.out.mono ?_; rintro e w1 ⟨u, rfl, hU, hb1⟩; refine Hid.out ?_)
      have hO1 := HH.out.1.more hb1
      have hS1 : SW w5 w1 := Below.trans hSr (Below.mono hb1 hSr.size)
      have hUL : RowL 1 encE w1 u es := ROwn.rowL hU rtE.len
      have HUB : Hid (∀ k, u.ownBlock = some k → v.ownBlock ≠ some k) := Lib.hid (fun k hk hv => by have h1 := (hU.low hk).1; have h2 := (HH.out.1.low hv).2; omega)
      obtain ⟨AU, cu, rfl, hcu⟩ := hUL
      have HU : Hid (∀ k (hk : k < es.length), ∃ b o, AU = some ⟨b, o, none⟩ ∧ v.ownBlock ≠ some b ∧ w1.cell? ⟨b, o + k, none⟩ = some (.int .i64 es[k])) := Lib.hid (fun k hk => by
        rcases hcu with h | ⟨b, o, h1, h2, h3⟩
        · rw [h] at hk; simp at hk
        · subst h1
          have h4 := h3 k _ 0 _ (List.getElem?_eq_getElem hk) rfl
          rw [Nat.mul_one, Nat.add_zero] at h4
          exact ⟨b, o, rfl, HUB.out b rfl, h4⟩)
      have HJ0 : Hid (FOwn w5.heap.size w1 v (airF p.l i ++ tag (airW ++ decA i) (es.take 0)) ∧ Chg w1 w1 v v ∧ SW w5 w1) := Lib.hid ⟨by simpa [tag] using hO1, Chg.refl _ _, hS1⟩
      have KDc := Lib.hid (rdec_small i (by omega))
      clear hcu HUB hU hb1 hO1 hS1 KAi HH z0 z1
      refine Lib.hid ?_
      go_wp2
      go_loopg [3, 6] es.length (fun kq v3 vk wi => ∃ (v2 : Value) (k : Nat), v2 = v3 ∧ vk = .int .i64 k ∧ k + kq = es.length ∧ Hid (FOwn w5.heap.size wi v2 (airF p.l i ++ tag (airW ++ decA i) (es.take k)) ∧ Chg w1 wi v v2 ∧ SW w5 wi))
      case atStart => exact ⟨_, 0, rfl, rfl, by omega, HJ0⟩
      case round =>
        obtain ⟨v2, k, rfl, rfl, hkq, HJ⟩ := hrel
        clear HJ0
        have HKQ := Lib.hid hkq
        have hel4 : es.length ≤ 4 := HEL.out
        by_cases hlt2 : k < es.length
        · clear hkq
          obtain ⟨b, o, rfl, hvb, hcell⟩ := HU.out k hlt2
          have i3 : (k : Int) < (es.length : Int) := by omega
          have hc2 := HJ.out.2.1.cell hcell hvb
          have hv2b : v2.ownBlock ≠ some b := fun h => by
            rcases HJ.out.2.1.own b h with h1 | h1
            · exact hvb h1
            · have := World.block_lt_of_cell? _ _ hcell; simp at this; omega
          have HT := Lib.hid (tag_succ (airW ++ decA i) es k hlt2)
          have HLn : Hid ((airF p.l i ++ tag (airW ++ decA i) (es.take k)).length ≤ 100000000) := Lib.hid (by
            have h1 := HFL.out
            have h2 := HEL.out
            have h3 : (tag (airW ++ decA i) (es.take k)).length = (es.take k).length := List.length_map _
            have h4 := List.length_take_le k es
            rw [List.length_append]
            omega)
          have hadd : ∀ W : World, (Op.stringOp .add ⟨#[97, 105, 114, 112, 111, 114, 116, 32]⟩ (decA i)).run Try.prog W = .ok (.string (airW ++ decA i)) W := fun W => run_string_add_sum W _ _ (by have := decA_size i (by omega); have e : (⟨#[97, 105, 114, 112, 111, 114, 116, 32]⟩ : ByteArray).size = 8 := rfl; omega)
          have hO := HJ.out.1.more ((Below.refl _ wr).drew)
          generalize es[k] = x at *
          clear hcell
          have f0 : ∀ W, SX wr v2 W → W.cell? ⟨b, o + k, none⟩ = some (.int .i64 x) := fun W h => SX.cell hc2 hv2b h
          go_wp2
          have hS : (SX wr v2) _ := But.of_below (Below.refl _ _).drew
          refine wp_region_held_drew (S := SX wr v2) (by kernel_rfl) hS (fun _ => ?_)
          refine wpAnyH_take (i := 0) (v := ?vRA0) rfl (by kernel_rfl) (by kernel_rfl) (by kernel_rfl) (fun _ _ _ h => h) (Or.inl ⟨by rfl, ?hyRA0⟩) hS ?restRA0
          case hyRA0 =>
            intro w hSw
            first | (go_simp; done) | (go_simp; with_reducible rfl)
          try simp only [Act.put, List.setIfInBounds_toArray, List.set_cons_zero, List.set_cons_succ]
          refine wpAnyH_take (i := 1) (v := ?vRA1) rfl (by kernel_rfl) (by kernel_rfl) (by kernel_rfl) (fun _ _ _ h => h) (Or.inl ⟨by rfl, ?hyRA1⟩) hS ?restRA1
          case hyRA1 =>
            intro w hSw
            first | (go_simp; done) | (go_simp; with_reducible rfl)
          try simp only [Act.put, List.setIfInBounds_toArray, List.set_cons_zero, List.set_cons_succ]
          refine wpAnyH_take (i := 2) (v := ?vRA2) rfl (by kernel_rfl) (by kernel_rfl) (by kernel_rfl) (fun _ _ _ h => h) (Or.inl ⟨by rfl, ?hyRA2⟩) hS ?restRA2
          case hyRA2 =>
            intro w hSw
            first | (go_simp; done) | (go_simp; with_reducible rfl)
          try simp only [Act.put, List.setIfInBounds_toArray, List.set_cons_zero, List.set_cons_succ]
          refine wpAnyH_take (i := 3) (v := ?vRA3) rfl (by kernel_rfl) (by kernel_rfl) (by kernel_rfl) (fun _ _ _ h => h) (Or.inl ⟨by rfl, ?hyRA3⟩) hS ?restRA3
          case hyRA3 =>
            intro w hSw
            have k0 := f0 w hSw
            first | (go_simp; done) | (go_simp; with_reducible rfl)
          try simp only [Act.put, List.setIfInBounds_toArray, List.set_cons_zero, List.set_cons_succ]
          refine wpAnyH_take (i := 4) (v := ?vRA4) rfl (by kernel_rfl) (by kernel_rfl) (by kernel_rfl) (fun _ _ _ h => h) (Or.inl ⟨by rfl, ?hyRA4⟩) hS ?restRA4
          case hyRA4 =>
            intro w hSw
            have k0 := f0 w hSw
            first | (go_simp; done) | (go_simp; with_reducible rfl)
          try simp only [Act.put, List.setIfInBounds_toArray, List.set_cons_zero, List.set_cons_succ]
          refine wpAnyH_take (i := 5) (v := ?vRA5) rfl (by kernel_rfl) (by kernel_rfl) (by kernel_rfl) (fun _ _ _ h => h) (Or.inl ⟨by rfl, ?hyRA5⟩) hS ?restRA5
          case hyRA5 =>
            intro w hSw
            first | (go_simp; done) | (go_simp; with_reducible rfl)
          try simp only [Act.put, List.setIfInBounds_toArray, List.set_cons_zero, List.set_cons_succ]
          refine wpAnyH_ready (rs := [6]) (by kernel_rfl) (by simp) ?_
          refine AllReadyH.cons rfl (fun K hK => ?_) AllReadyH.nil
          go_simp
          go_wp2_with ((go_at_call 15; refine (KDc.out _).mono ?_; rintro e w' ⟨rfl, hb'⟩; have hO := hO.more hb'; have hS := hS.on hb'))
          refine hK.out _ _ hS (fun _ => ?_)
          clear hK K
          refine wpAnyH_take (i := 7) (v := ?vRA7) rfl (by kernel_rfl) (by kernel_rfl) (by kernel_rfl) (fun _ _ _ h => h) (Or.inl ⟨by rfl, ?hyRA7⟩) hS ?restRA7
          case hyRA7 =>
            intro w hSw
            have kadd := hadd w
            first | (go_simp; done) | (go_simp; with_reducible rfl)
          try simp only [Act.put, List.setIfInBounds_toArray, List.set_cons_zero, List.set_cons_succ]
          refine wpAnyH_take (i := 8) (v := ?vRA8) rfl (by kernel_rfl) (by kernel_rfl) (by kernel_rfl) (fun _ _ _ h => h) (Or.inl ⟨by rfl, ?hyRA8⟩) hS ?restRA8
          case hyRA8 =>
            intro w hSw
            first | (go_simp; done) | (go_simp; with_reducible rfl)
          try simp only [Act.put, List.setIfInBounds_toArray, List.set_cons_zero, List.set_cons_succ]
          refine wpAnyH_ready (rs := [9]) (by kernel_rfl) (by simp) ?_
          refine AllReadyH.cons rfl (fun K hK => ?_) AllReadyH.nil
          go_simp
          have hSp := hS
          have hS := hS.on (bel_alloc _ (.cells #[.int .i64 x, .string (airW ++ decA i)] fltT))
          refine hK.out _ _ hS (fun _ => ?_)
          clear hK K
          refine wpAnyH_ready (rs := [10]) (by kernel_rfl) (by simp) ?_
          refine AllReadyH.cons rfl (fun K hK => ?_) AllReadyH.nil
          refine step_rapp rtF rfl _ _ rfl hO rfl (bel_alloc _ _) _ (x, airW ++ decA i) _ rfl (cs := #[.int .i64 x, .string (airW ++ decA i)]) rfl (heap_alloc_new _ _) HLn.out ?_
          intro v8 w8 hO8 hC8
          go_simp
          have hS := hSp.trans hC8.but (fun _ _ h => h)
          refine hK.out _ _ hS (fun _ => ?_)
          clear hK K
          refine wpAnyH_take (i := 11) (v := ?vRA11) rfl (by kernel_rfl) (by kernel_rfl) (by kernel_rfl) (fun _ _ _ h => h) (Or.inl ⟨by rfl, ?hyRA11⟩) hS ?restRA11
          case hyRA11 =>
            intro w hSw
            first | (go_simp; done) | (go_simp; with_reducible rfl)
          try simp only [Act.put, List.setIfInBounds_toArray, List.set_cons_zero, List.set_cons_succ]
          refine wpAnyH_done (by kernel_rfl) ?_ _
          simp only [List.getElem_toArray, List.getElem_cons_succ, List.getElem_cons_zero, List.set_cons_zero, List.set_cons_succ]
          have HX : Hid (FOwn w5.heap.size w8 v8 (airF p.l i ++ tag (airW ++ decA i) (es.take (k + 1))) ∧ Chg w1 w8 v v8 ∧ SW w5 w8) := Lib.hid ⟨by rw [HT.out, ← List.append_assoc]; exact hO8, HJ.out.2.1.trans ⟨hS, fun g hg => by
              rcases hC8.own g hg with h1 | h1
              · exact .inl h1
              · exact .inr (Nat.le_trans hSp.size h1)⟩, Below.trans HJ.out.2.2 (hS.below HJ.out.1.base (fun k hk hv => by have := (HJ.out.1.low hv).1; omega))⟩
          clear hO8 hC8 hS hSp hO
          go_wp2
          go_roundg (es.length - (k + 1))
          case measure => have := HKQ.out; omega
          case rel => exact ⟨_, k + 1, rfl, by go_num, by omega, HX⟩
        · have HX : Hid (FOwn w5.heap.size wr v2 (airF p.l (i + 1)) ∧ SW w5 wr) := Lib.hid ⟨by
              rw [HS.out]
              have := HJ.out.1
              rwa [List.take_of_length_le (by omega)] at this, HJ.out.2.2⟩
          clear HJ hkq
          go_wp2
          go_roundg (p.l.length - (i + 1))
          case measure => have := HIK.out; omega
          case rel => exact ⟨_, i + 1, rfl, by go_num, by omega, HX⟩
    · have HN2 : Hid (FOwn w5.heap.size wr v (airF p.l p.l.length ++ dstF p.l p.ds 0) ∧ SW w5 wr) := Lib.hid ⟨by
          rw [dstF_zero, List.append_nil, ← show i = p.l.length by omega]
          exact HH.out.1, hSr⟩
      clear hik HH
      go_wp2
      go_loopg [3, 7] p.ds.length (fun kx v3 vi wr => ∃ (v : Value) (i : Nat), v = v3 ∧ vi = .int .i64 i ∧ i + kx = p.ds.length ∧ Hid (FOwn w5.heap.size wr v (airF p.l p.l.length ++ dstF p.l p.ds i) ∧ SW w5 wr))
      case atStart => exact ⟨_, 0, rfl, rfl, by omega, HN2⟩
      case round =>
        obtain ⟨v, i, rfl, rfl, hik, HH⟩ := hrel
        have HIK := Lib.hid hik
        have hSr : SW w5 wr := HH.out.2
        have z0 := y0 _ hSr
        have z1 := y1 _ hSr
        by_cases hlt : i < p.ds.length
        · clear hik
          obtain ⟨a, hia⟩ : ∃ a, p.ds[i]? = some a := ⟨_, List.getElem?_eq_getElem hlt⟩
          have i2 : (i : Int) < (p.ds.length : Int) := by omega
          have KAi := Lib.hid (KD.out i a wr hSr hia)
          have HS := Lib.hid (dstF_succ p.l p.ds i a hia)
          have HFL : Hid ((airF p.l p.l.length ++ dstF p.l p.ds i).length ≤ 1000) := Lib.hid (by have := airF_le p.l p.l.length; have := dstF_le p.l p.ds i; rw [List.length_append]; omega)
          have HEL : Hid ((okE (dstE p.l (p.ds.take i) a)).length ≤ 4) := Lib.hid (Nat.le_trans (okE_le _) (by rw [dstE_len]; omega))
          have hpk : pick (dstW ++ decA i) (dstE p.l (p.ds.take i) a) = tag (dstW ++ decA i) (okE (dstE p.l (p.ds.take i) a)) := rfl
          rw [hpk] at HS
          clear hia hpk
          generalize okE (dstE p.l (p.ds.take i) a) = es at *
          go_wp2_with (go_at_call 40; refine KAi.out.mono ?_; rintro e w1 ⟨u, rfl, hU, hb1⟩; refine Hid.out ?_)
          have hO1 := HH.out.1.more hb1
          have hS1 : SW w5 w1 := Below.trans hSr (Below.mono hb1 hSr.size)
          have hUL : RowL 1 encE w1 u es := ROwn.rowL hU rtE.len
          have HUB : Hid (∀ k, u.ownBlock = some k → v.ownBlock ≠ some k) := Lib.hid (fun k hk hv => by have h1 := (hU.low hk).1; have h2 := (HH.out.1.low hv).2; omega)
          obtain ⟨AU, cu, rfl, hcu⟩ := hUL
          have HU : Hid (∀ k (hk : k < es.length), ∃ b o, AU = some ⟨b, o, none⟩ ∧ v.ownBlock ≠ some b ∧ w1.cell? ⟨b, o + k, none⟩ = some (.int .i64 es[k])) := Lib.hid (fun k hk => by
            rcases hcu with h | ⟨b, o, h1, h2, h3⟩
            · rw [h] at hk; simp at hk
            · subst h1
              have h4 := h3 k _ 0 _ (List.getElem?_eq_getElem hk) rfl
              rw [Nat.mul_one, Nat.add_zero] at h4
              exact ⟨b, o, rfl, HUB.out b rfl, h4⟩)
          have HJ0 : Hid (FOwn w5.heap.size w1 v (airF p.l p.l.length ++ dstF p.l p.ds i ++ tag (dstW ++ decA i) (es.take 0)) ∧ Chg w1 w1 v v ∧ SW w5 w1) := Lib.hid ⟨by simpa [tag] using hO1, Chg.refl _ _, hS1⟩
          have KDc := Lib.hid (rdec_small i (by omega))
          clear hcu HUB hU hb1 hO1 hS1 KAi HH z0 z1
          refine Lib.hid ?_
          go_wp2
          go_loopg [3, 9] es.length (fun kq v3 vk wi => ∃ (v2 : Value) (k : Nat), v2 = v3 ∧ vk = .int .i64 k ∧ k + kq = es.length ∧ Hid (FOwn w5.heap.size wi v2 (airF p.l p.l.length ++ dstF p.l p.ds i ++ tag (dstW ++ decA i) (es.take k)) ∧ Chg w1 wi v v2 ∧ SW w5 wi))
          case atStart => exact ⟨_, 0, rfl, rfl, by omega, HJ0⟩
          case round =>
            obtain ⟨v2, k, rfl, rfl, hkq, HJ⟩ := hrel
            clear HJ0
            have HKQ := Lib.hid hkq
            have hel4 : es.length ≤ 4 := HEL.out
            by_cases hlt2 : k < es.length
            · clear hkq
              obtain ⟨b, o, rfl, hvb, hcell⟩ := HU.out k hlt2
              have i3 : (k : Int) < (es.length : Int) := by omega
              have hc2 := HJ.out.2.1.cell hcell hvb
              have hv2b : v2.ownBlock ≠ some b := fun h => by
                rcases HJ.out.2.1.own b h with h1 | h1
                · exact hvb h1
                · have := World.block_lt_of_cell? _ _ hcell; simp at this; omega
              have HT := Lib.hid (tag_succ (dstW ++ decA i) es k hlt2)
              have HLn : Hid ((airF p.l p.l.length ++ dstF p.l p.ds i ++ tag (dstW ++ decA i) (es.take k)).length ≤ 100000000) := Lib.hid (by
                have h1 := HFL.out
                have h2 := HEL.out
                have h3 : (tag (dstW ++ decA i) (es.take k)).length = (es.take k).length := List.length_map _
                have h4 := List.length_take_le k es
                rw [List.length_append]
                omega)
              have hadd : ∀ W : World, (Op.stringOp .add ⟨#[100, 105, 115, 116, 97, 110, 99, 101, 32]⟩ (decA i)).run Try.prog W = .ok (.string (dstW ++ decA i)) W := fun W => run_string_add_sum W _ _ (by have := decA_size i (by omega); have e : (⟨#[100, 105, 115, 116, 97, 110, 99, 101, 32]⟩ : ByteArray).size = 9 := rfl; omega)
              have hO := HJ.out.1.more ((Below.refl _ wr).drew)
              generalize es[k] = x at *
              clear hcell
              have f0 : ∀ W, SX wr v2 W → W.cell? ⟨b, o + k, none⟩ = some (.int .i64 x) := fun W h => SX.cell hc2 hv2b h
              go_wp2
              have hS : (SX wr v2) _ := But.of_below (Below.refl _ _).drew
              refine wp_region_held_drew (S := SX wr v2) (by kernel_rfl) hS (fun _ => ?_)
              refine wpAnyH_take (i := 0) (v := ?vRB0) rfl (by kernel_rfl) (by kernel_rfl) (by kernel_rfl) (fun _ _ _ h => h) (Or.inl ⟨by rfl, ?hyRB0⟩) hS ?restRB0
              case hyRB0 =>
                intro w hSw
                first | (go_simp; done) | (go_simp; with_reducible rfl)
              try simp only [Act.put, List.setIfInBounds_toArray, List.set_cons_zero, List.set_cons_succ]
              refine wpAnyH_take (i := 1) (v := ?vRB1) rfl (by kernel_rfl) (by kernel_rfl) (by kernel_rfl) (fun _ _ _ h => h) (Or.inl ⟨by rfl, ?hyRB1⟩) hS ?restRB1
              case hyRB1 =>
                intro w hSw
                first | (go_simp; done) | (go_simp; with_reducible rfl)
              try simp only [Act.put, List.setIfInBounds_toArray, List.set_cons_zero, List.set_cons_succ]
              refine wpAnyH_take (i := 2) (v := ?vRB2) rfl (by kernel_rfl) (by kernel_rfl) (by kernel_rfl) (fun _ _ _ h => h) (Or.inl ⟨by rfl, ?hyRB2⟩) hS ?restRB2
              case hyRB2 =>
                intro w hSw
                first | (go_simp; done) | (go_simp; with_reducible rfl)
              try simp only [Act.put, List.setIfInBounds_toArray, List.set_cons_zero, List.set_cons_succ]
              refine wpAnyH_take (i := 3) (v := ?vRB3) rfl (by kernel_rfl) (by kernel_rfl) (by kernel_rfl) (fun _ _ _ h => h) (Or.inl ⟨by rfl, ?hyRB3⟩) hS ?restRB3
              case hyRB3 =>
                intro w hSw
                have k0 := f0 w hSw
                first | (go_simp; done) | (go_simp; with_reducible rfl)
              try simp only [Act.put, List.setIfInBounds_toArray, List.set_cons_zero, List.set_cons_succ]
              refine wpAnyH_take (i := 4) (v := ?vRB4) rfl (by kernel_rfl) (by kernel_rfl) (by kernel_rfl) (fun _ _ _ h => h) (Or.inl ⟨by rfl, ?hyRB4⟩) hS ?restRB4
              case hyRB4 =>
                intro w hSw
                have k0 := f0 w hSw
                first | (go_simp; done) | (go_simp; with_reducible rfl)
              try simp only [Act.put, List.setIfInBounds_toArray, List.set_cons_zero, List.set_cons_succ]
              refine wpAnyH_take (i := 5) (v := ?vRB5) rfl (by kernel_rfl) (by kernel_rfl) (by kernel_rfl) (fun _ _ _ h => h) (Or.inl ⟨by rfl, ?hyRB5⟩) hS ?restRB5
              case hyRB5 =>
                intro w hSw
                first | (go_simp; done) | (go_simp; with_reducible rfl)
              try simp only [Act.put, List.setIfInBounds_toArray, List.set_cons_zero, List.set_cons_succ]
              refine wpAnyH_ready (rs := [6]) (by kernel_rfl) (by simp) ?_
              refine AllReadyH.cons rfl (fun K hK => ?_) AllReadyH.nil
              go_simp
              go_wp2_with ((go_at_call 15; refine (KDc.out _).mono ?_; rintro e w' ⟨rfl, hb'⟩; have hO := hO.more hb'; have hS := hS.on hb'))
              refine hK.out _ _ hS (fun _ => ?_)
              clear hK K
              refine wpAnyH_take (i := 7) (v := ?vRB7) rfl (by kernel_rfl) (by kernel_rfl) (by kernel_rfl) (fun _ _ _ h => h) (Or.inl ⟨by rfl, ?hyRB7⟩) hS ?restRB7
              case hyRB7 =>
                intro w hSw
                have kadd := hadd w
                first | (go_simp; done) | (go_simp; with_reducible rfl)
              try simp only [Act.put, List.setIfInBounds_toArray, List.set_cons_zero, List.set_cons_succ]
              refine wpAnyH_take (i := 8) (v := ?vRB8) rfl (by kernel_rfl) (by kernel_rfl) (by kernel_rfl) (fun _ _ _ h => h) (Or.inl ⟨by rfl, ?hyRB8⟩) hS ?restRB8
              case hyRB8 =>
                intro w hSw
                first | (go_simp; done) | (go_simp; with_reducible rfl)
              try simp only [Act.put, List.setIfInBounds_toArray, List.set_cons_zero, List.set_cons_succ]
              refine wpAnyH_ready (rs := [9]) (by kernel_rfl) (by simp) ?_
              refine AllReadyH.cons rfl (fun K hK => ?_) AllReadyH.nil
              go_simp
              have hSp := hS
              have hS := hS.on (bel_alloc _ (.cells #[.int .i64 x, .string (dstW ++ decA i)] fltT))
              refine hK.out _ _ hS (fun _ => ?_)
              clear hK K
              refine wpAnyH_ready (rs := [10]) (by kernel_rfl) (by simp) ?_
              refine AllReadyH.cons rfl (fun K hK => ?_) AllReadyH.nil
              refine step_rapp rtF rfl _ _ rfl hO rfl (bel_alloc _ _) _ (x, dstW ++ decA i) _ rfl (cs := #[.int .i64 x, .string (dstW ++ decA i)]) rfl (heap_alloc_new _ _) HLn.out ?_
              intro v8 w8 hO8 hC8
              go_simp
              have hS := hSp.trans hC8.but (fun _ _ h => h)
              refine hK.out _ _ hS (fun _ => ?_)
              clear hK K
              refine wpAnyH_take (i := 11) (v := ?vRB11) rfl (by kernel_rfl) (by kernel_rfl) (by kernel_rfl) (fun _ _ _ h => h) (Or.inl ⟨by rfl, ?hyRB11⟩) hS ?restRB11
              case hyRB11 =>
                intro w hSw
                first | (go_simp; done) | (go_simp; with_reducible rfl)
              try simp only [Act.put, List.setIfInBounds_toArray, List.set_cons_zero, List.set_cons_succ]
              refine wpAnyH_done (by kernel_rfl) ?_ _
              simp only [List.getElem_toArray, List.getElem_cons_succ, List.getElem_cons_zero, List.set_cons_zero, List.set_cons_succ]
              have HX : Hid (FOwn w5.heap.size w8 v8 (airF p.l p.l.length ++ dstF p.l p.ds i ++ tag (dstW ++ decA i) (es.take (k + 1))) ∧ Chg w1 w8 v v8 ∧ SW w5 w8) := Lib.hid ⟨by rw [HT.out, ← List.append_assoc]; exact hO8, HJ.out.2.1.trans ⟨hS, fun g hg => by
                  rcases hC8.own g hg with h1 | h1
                  · exact .inl h1
                  · exact .inr (Nat.le_trans hSp.size h1)⟩, Below.trans HJ.out.2.2 (hS.below HJ.out.1.base (fun k hk hv => by have := (HJ.out.1.low hv).1; omega))⟩
              clear hO8 hC8 hS hSp hO
              go_wp2
              go_roundg (es.length - (k + 1))
              case measure => have := HKQ.out; omega
              case rel => exact ⟨_, k + 1, rfl, by go_num, by omega, HX⟩
            · have HX : Hid (FOwn w5.heap.size wr v2 (airF p.l p.l.length ++ dstF p.l p.ds (i + 1)) ∧ SW w5 wr) := Lib.hid ⟨by
                  rw [HS.out]
                  have := HJ.out.1
                  rwa [List.take_of_length_le (by omega), List.append_assoc] at this, HJ.out.2.2⟩
              clear HJ hkq
              go_wp2
              go_roundg (p.ds.length - (i + 1))
              case measure => have := HIK.out; omega
              case rel => exact ⟨_, i + 1, rfl, by go_num, by omega, HX⟩
        · have HR : Hid (FOwn w.heap.size wr v (chkP p) ∧ Below w.heap.size w wr) := Lib.hid ⟨⟨by
              rw [HC.out, ← show i = p.ds.length by omega]
              exact HH.out.1.own.mono hb0.size, Nat.le_trans hb0.size hSr.size⟩, hb0.trans (Below.mono hSr hb0.size)⟩
          clear hik HH
          go_wp2
          go_ret
          exact ⟨v, rfl, HR.out⟩
      

end Go.Proofs.Ytmmpalnalogfnaa

/- Walks of the whole's smallPlaces and awake. -/
namespace Go.Proofs.Ytmmpalnalogfnaa
open Go.RowKit Go.Shelf
set_option linter.unusedSimpArgs false
set_option linter.unusedVariables false

/-- places that are few and right, or not -/
def SmlPost (p : PV) (w : World) (e : Ending) (w' : World) : Prop := ∃ b : Bool, e = .returned (.bool b) ∧ (b = true → p.l.length ≤ 12 ∧ p.ds.length ≤ 20 ∧ chkP p = []) ∧ Below w.heap.size w w'
set_option maxRecDepth 100000 in
set_option maxHeartbeats 4000000 in
theorem smallPl_any (p : PV) (w : World) (hP : PlL w p) (hA : ∀ a ∈ p.l, OkA a) (hD : ∀ d ∈ p.ds, OkD d) (h1 : p.l.length < 9223372036854775808) (h2 : p.ds.length < 9223372036854775808) :
    Calls Try.prog 4 #[encP p] w (SmlPost p w) := by
  have hb0 := bel_alloc w (.cells #[.slice p.A p.l.length p.ca, .slice p.D p.ds.length p.cd] placesT)
  have p0 := (cells_new w #[.slice p.A p.l.length p.ca, .slice p.D p.ds.length p.cd] placesT 0).trans (show _ = some (Value.slice p.A p.l.length p.ca) from rfl)
  have p1 := (cells_new w #[.slice p.A p.l.length p.ca, .slice p.D p.ds.length p.cd] placesT 1).trans (show _ = some (Value.slice p.D p.ds.length p.cd) from rfl)
  have HP := Lib.hid (hP.more hb0)
  clear hP
  go_enter Try.func4, Try.ntmps4
  go_upto_region 1 with fail
  generalize hw5 : w.alloc (.cells #[.slice p.A p.l.length p.ca, .slice p.D p.ds.length p.cd] placesT) = w5 at *
  clear hw5
  have y0 := bel_get p0
  have y1 := bel_get p1
  clear p0 p1
  have hS : SW w5 w5 := Below.refl _ _
  have z0 := y0 _ hS
  have z1 := y1 _ hS
  by_cases g1 : p.l.length ≤ 12
  case neg =>
    have i1 : ¬ (p.l.length : Int) ≤ 12 := by omega
    go_wp2
    go_ret
    exact ⟨false, rfl, (fun h => by cases h), hb0⟩
  by_cases g2 : p.ds.length ≤ 20
  case neg =>
    have i1 : (p.l.length : Int) ≤ 12 := by omega
    have i2 : ¬ (p.ds.length : Int) ≤ 20 := by omega
    go_wp2
    go_ret
    exact ⟨false, rfl, (fun h => by cases h), hb0⟩
  have i1 : (p.l.length : Int) ≤ 12 := by omega
  have i2 : (p.ds.length : Int) ≤ 20 := by omega
  have KC : Hid (∀ W, SW w5 W → Calls Try.prog 13 #[encP p] W fun e w' => ∃ A c, e = .returned (.slice A (chkP p).length c) ∧ SW w5 w') := Lib.hid (fun W h => (rcheck6_any p W ⟨hA, hD, by omega, by omega⟩ (HP.out.more h)).mono (by rintro e w' ⟨v, rfl, hO, hb⟩; obtain ⟨A, c, rfl, _⟩ := hO.rowL rtF.len; exact ⟨A, c, rfl, Below.trans h (Below.mono hb h.size)⟩))
  have G := Lib.hid (And.intro g1 g2)
  clear g1 g2
  by_cases hc0 : chkP p = []
  · have HC0 := Lib.hid hc0
    rw [hc0] at KC
    simp only [List.length_nil] at KC
    clear hc0
    go_wp2_with (go_at_call 13; refine (KC.out _ hS).mono ?_; rintro e w2 ⟨A2, c2, rfl, hS⟩)
    go_ret
    exact ⟨true, rfl, fun _ => ⟨G.out.1, G.out.2, HC0.out⟩, hb0.trans (Below.mono hS hb0.size)⟩
  · have hcl : (((chkP p).length : Int) == 0) = false := by
      rw [beq_eq_false_iff_ne]
      intro h
      exact hc0 (List.eq_nil_of_length_eq_zero (by omega))
    clear hc0
    generalize (chkP p).length = n0 at *
    go_wp2_with (go_at_call 13; refine (KC.out _ hS).mono ?_; rintro e w2 ⟨A2, c2, rfl, hS⟩)
    go_ret
    exact ⟨false, rfl, (fun h => by cases h), hb0.trans (Below.mono hS hb0.size)⟩

theorem pr9497 : (⟨(printL 9497).toArray⟩ : ByteArray) = ⟨#[50, 48, 50, 54, 45, 48, 49, 45, 48, 49]⟩ := by decide +kernel
theorem cnt9497 : (Per.daysQ (9497, 9503, 96)).length = 2 := by decide +kernel
theorem ok60 : OkZ 60 [] := errZ_ok (by decide)
theorem off60 : offZ 60 [] 5 = 60 := by decide +kernel
set_option maxRecDepth 100000 in
set_option maxHeartbeats 4000000 in
theorem awakeT_any (w : World) : Calls Try.prog 7 #[] w fun e w' => e = .returned (.bool true) ∧ Below w.heap.size w w' := by
  have K1 : Hid (∀ W, SW w W → Calls Try.prog 27 #[.int .i64 9497] W fun e w' => e = .returned (.string ⟨#[50, 48, 50, 54, 45, 48, 49, 45, 48, 49]⟩) ∧ SW w w') := Lib.hid (SW.call (fun W h => by have := print_any 9497 W; rw [pr9497] at this; exact this))
  have K2 : Hid (∀ W, SW w W → Calls Try.prog 28 #[.agg #[.int .i64 9497, .int .i64 9503, .int .i64 96]] W fun e w' => e = .returned (.int .i64 2) ∧ SW w w') := Lib.hid (SW.call (fun W h => by have := Per.count_any (9497, 9503, 96) W; rw [cnt9497] at this; exact this))
  have K3 : Hid (∀ W, SW w W → Calls Try.prog 11 #[.agg #[.int .i64 60, .slice none 0 0], .int .i64 5] W fun e w' => e = .returned (.int .i64 65) ∧ SW w w') := Lib.hid (SW.call (fun W h => by have := Zon.local_any 60 none 0 [] 5 W ok60 (.inl rfl) (by omega); rw [off60] at this; exact this))
  have hS : SW w w := Below.refl _ _
  go_enter Try.func7, Try.ntmps7
  go_wp2_with (first
    | (go_at_call 11; refine (K3.out _ hS).mono ?_; rintro e w3 ⟨rfl, hS⟩)
    | (go_at_call 28; refine (K2.out _ hS).mono ?_; rintro e w2 ⟨rfl, hS⟩)
    | (go_at_call 27; refine (K1.out _ hS).mono ?_; rintro e w1 ⟨rfl, hS⟩))
  go_ret
  exact ⟨rfl, hS⟩

end Go.Proofs.Ytmmpalnalogfnaa

/- Walks of the reference's leaves for flights: out, broken, head. -/
namespace Go.Proofs.Ytmmpalnalogfnaa
open Go.RowKit Go.Shelf
set_option linter.unusedSimpArgs false
set_option linter.unusedVariables false

theorem rout_any (n : Int) (w : World) : Calls Try.prog 19 #[.int .i64 n] w fun e w' => e = .returned (.bool (!minB n)) ∧ w = w' := by
  have HU : Hid ((!minB n) = (decide (n < -1440) || decide (5759 < n))) := Lib.hid (by
    unfold minB
    by_cases h1 : -1440 ≤ n <;> by_cases h2 : n ≤ 5759 <;> simp [h1, h2] <;> omega)
  by_cases h1 : n < -1440
  all_goals
    go_enter Try.func19, Try.ntmps19
    go_wp2
    go_ret
    exact ⟨ret_bool (by rw [HU.out]; first | (simp [h1]; done) | (simp [h1]; omega)), rfl⟩

theorem next_or (l : List Lg) (k : Nat) (x : Lg) (h : l[k]? = some x) : (!nextB (l.take k) x) = (badF (l.take k) x || (l.take (k + 1)).any (fun b => b.f.toList == x.t.toList)) := by
  rw [any_take _ l k x h]
  unfold nextB
  have e : (x.t.toList == x.f.toList) = (x.f.toList == x.t.toList) := by
    by_cases h : x.f.toList = x.t.toList
    · simp [h]
    · have h2 : ¬ x.t.toList = x.f.toList := fun e => h e.symm
      rw [beq_eq_false_iff_ne.2 h, beq_eq_false_iff_ne.2 h2]
  rw [e]
  cases badF (l.take k) x <;> cases (l.take k).any (fun b => b.f.toList == x.t.toList) <;> cases (x.f.toList == x.t.toList) <;> rfl
theorem any_up {q : Lg → Bool} {l : List Lg} {j k : Nat} {y : Lg} (h : l[j]? = some y) (hq : q y = true) (hjk : j ≤ k) : (l.take (k + 1)).any q = true := by
  rw [List.any_eq_true]
  refine ⟨y, ?_, hq⟩
  have : (l.take (k + 1))[j]? = some y := by rw [List.getElem?_take, if_pos (by omega)]; exact h
  exact List.mem_of_getElem? this

set_option maxRecDepth 100000 in
set_option maxHeartbeats 4000000 in
theorem rbroken_any (A : Option Addr) (c : Nat) (l : List Lg) (k : Nat) (x : Lg) (w : World) (hl : l.length ≤ 1000) (hL : LegL w (.slice A l.length c) l) (hx : l[k]? = some x) :
    Calls Try.prog 18 #[.slice A l.length c, .int .i64 (k : Int)] w fun e w' => e = .returned (.bool (!nextB (l.take k) x)) ∧ Below w.heap.size w w' := by
  have HN := Lib.hid (next_or l k x hx)
  have hk : k < l.length := (List.getElem?_eq_some_iff.1 hx).1
  obtain ⟨b, o, x', rfl, hbl, hx', c0, c1, c2, c3, c4⟩ := LegL.get hL hk
  rw [hx] at hx'
  obtain rfl := Option.some.inj hx'
  have i0 : (k : Int) < (l.length : Int) := by omega
  have fx0 := SW.cell c0
  have fx1 := SW.cell c1
  clear c0 c1 c2 c3 c4
  have HX := Lib.hid hx
  clear hx
  go_enter Try.func18, Try.ntmps18
  go_upto_region 1 with fail
  go_cut [21] from 6 (fun v wx => v = .bool (badF (l.take k) x) ∧ SW w wx)
  case first =>
    by_cases h0 : k = 0
    · have hE : badF (l.take k) x = false := by rw [h0]; rfl
      have HE := Lib.hid hE
      have i1 : ¬ (0 : Int) < (k : Int) := by omega
      have hdec : decide (0 < k) = false := decide_eq_false (by omega)
      clear hE h0
      have hNe : Nonempty (Wd (SW w)) := ⟨⟨_, SW.drew _⟩⟩
      refine quietS (S := SW w) (by kernel_rfl) (by kernel_rfl) (SW.drew _) ?_
      repeat (first | go_big_quiet_skip | (go_big_quiet_want; go_big_quiet_op; first | go_big_quiet_on | go_big_quiet_call ((fail))))
      refine wpQuiet_nil ?_
      rintro W ⟨⟨_, hW⟩, rfl⟩
      go_wp2
      go_meet
      exact ⟨by rw [HE.out], hW⟩
    · obtain ⟨b', o', y, e, hbl', hy, c0, c1, c2, c3, c4⟩ := LegL.get hL (show k - 1 < l.length by omega)
      cases e
      have hE : badF (l.take k) x = !(x.f.toList == y.t.toList) := by
        unfold badF
        rw [List.getLast?_eq_getElem?, List.length_take, Nat.min_eq_left (by omega), List.getElem?_take, if_pos (by omega), hy]
      have HE := Lib.hid hE
      have i1 : (0 : Int) < (k : Int) := by omega
      have hdec : decide (0 < k) = true := decide_eq_true (by omega)
      have i2 : ((k : Int) - 1) = ((k - 1 : Nat) : Int) := by omega
      have i3 : ((k - 1 : Nat) : Int) < (l.length : Int) := by omega
      have fy := SW.cell c1
      clear hE h0 hy c0 c1 c2 c3 c4
      generalize k - 1 = last at *
      have hNe : Nonempty (Wd (SW w)) := ⟨⟨_, SW.drew _⟩⟩
      refine quietS (S := SW w) (by kernel_rfl) (by kernel_rfl) (SW.drew _) ?_
      repeat (first | go_big_quiet_skip | (go_big_quiet_want; go_big_quiet_op; first | go_big_quiet_on | go_big_quiet_call ((fail))))
      refine wpQuiet_nil ?_
      rintro W ⟨⟨_, hW⟩, rfl⟩
      go_wp2
      go_meet
      exact ⟨by rw [HE.out], hW⟩
  case rest =>
    obtain ⟨rfl, hS⟩ := hcut
    cases hbf : badF (l.take k) x
    · rw [hbf] at HN
      clear hbf
      have HL := Lib.hid hL
      clear hL
      go_wp2
      go_loopw [5] (fun vi wr => ∃ j : Nat, j ≤ k + 1 ∧ vi = .int .i64 j ∧ Hid ((l.take j).any (fun b => b.f.toList == x.t.toList) = false) ∧ SW w wr) (fun vi _ => k + 1 - (intOf vi).toNat)
      case atStart => exact ⟨0, by omega, rfl, Lib.hid rfl, hS⟩
      case round =>
        obtain ⟨j, hj, rfl, HJ, hSr⟩ := hrel
        by_cases hlt : j ≤ k
        · obtain ⟨b', o', y, e, hbl', hy, c0, c1, c2, c3, c4⟩ := LegL.get (HL.out.more hSr) (show j < l.length by omega)
          cases e
          have i1 : (j : Int) ≤ (k : Int) := by omega
          have i2 : (j : Int) < (l.length : Int) := by omega
          have hT := any_take (fun b => b.f.toList == x.t.toList) l j y hy
          have fy := SW.cell c0
          have fx := SW.cell (fx1 ⟨wr, hSr⟩)
          have HU : Hid ((y.f.toList == x.t.toList) = true → (l.take (k + 1)).any (fun b => b.f.toList == x.t.toList) = true) := Lib.hid (fun h => any_up hy h hlt)
          have HT := Lib.hid hT
          clear hT hy c0 c1 c2 c3 c4
          cases hq : (y.f.toList == x.t.toList)
          · have HJ2 : Hid ((l.take (j + 1)).any (fun b => b.f.toList == x.t.toList) = false) := Lib.hid (by rw [HT.out, HJ.out]; simpa using hq)
            go_wp2
            have hNe : Nonempty (Wd (SW wr)) := ⟨⟨_, SW.drew _⟩⟩
            refine quietS (S := SW wr) (by kernel_rfl) (by kernel_rfl) (SW.drew _) ?_
            repeat (first | go_big_quiet_skip | (go_big_quiet_want; go_big_quiet_op; first | go_big_quiet_on | go_big_quiet_call ((fail))))
            refine wpQuiet_nil ?_
            rintro W ⟨⟨_, hW⟩, rfl⟩
            go_wp2
            go_roundw
            case rel => exact ⟨j + 1, by omega, by go_num, HJ2, Below.trans hSr (Below.mono hW hSr.size)⟩
            case measure => simp [intOf]; omega
          · have HR : Hid ((!nextB (l.take k) x) = true) := Lib.hid (by rw [HN.out, HU.out hq]; rfl)
            go_wp2
            have hNe : Nonempty (Wd (SW wr)) := ⟨⟨_, SW.drew _⟩⟩
            refine quietS (S := SW wr) (by kernel_rfl) (by kernel_rfl) (SW.drew _) ?_
            repeat (first | go_big_quiet_skip | (go_big_quiet_want; go_big_quiet_op; first | go_big_quiet_on | go_big_quiet_call ((fail))))
            refine wpQuiet_nil ?_
            rintro W ⟨⟨_, hW⟩, rfl⟩
            go_wp2
            go_ret
            exact ⟨ret_bool HR.out.symm, Below.trans hSr (Below.mono hW hSr.size)⟩
        · have e : j = k + 1 := by omega
          have HR : Hid ((!nextB (l.take k) x) = false) := Lib.hid (by rw [HN.out, ← e, HJ.out]; rfl)
          have i1 : ¬ (j : Int) ≤ (k : Int) := by omega
          clear e
          go_wp2
          go_ret
          exact ⟨ret_bool HR.out.symm, hSr⟩
    · rw [hbf] at HN
      go_wp2
      go_ret
      exact ⟨ret_bool (by rw [HN.out]; rfl), hS⟩

end Go.Proofs.Ytmmpalnalogfnaa

/- Walk of the reference's head of a flight. -/
namespace Go.Proofs.Ytmmpalnalogfnaa
open Go.RowKit Go.Shelf
set_option linter.unusedSimpArgs false
set_option linter.unusedVariables false

/-- the violations of a flight without its legs, with the count of legs -/
def hdR (f : FV) : List Flt := hdF f ++ pick lgsW [if (!cntB f.lg.length) = true then 4 else 0]
set_option maxRecDepth 100000 in
set_option maxHeartbeats 8000000 in
theorem rhead_any (f : FV) (w : World) (hc0 : f.car.size ≤ maxLen) :
    Calls Try.prog 14 #[encFl f] w fun e w' => ∃ v, e = .returned v ∧ FOwn w.heap.size w' v (hdR f) ∧ Below w.heap.size w w' := by
  obtain ⟨HR, hHR⟩ : ∃ H, H = hdR f := ⟨_, rfl⟩
  rw [← hHR]
  obtain ⟨x0, hx0⟩ : ∃ x : Int, x = (if (!carB f.car) = true then 5 else 0) := ⟨_, rfl⟩
  obtain ⟨x1, hx1⟩ : ∃ x : Int, x = (if (!numB f.num) = true then 2 else 0) := ⟨_, rfl⟩
  obtain ⟨x2, hx2⟩ : ∃ x : Int, x = Per.errQ (f.pf, f.pt, f.pd) := ⟨_, rfl⟩
  obtain ⟨x3, hx3⟩ : ∃ x : Int, x = (if (!cntB f.lg.length) = true then 4 else 0) := ⟨_, rfl⟩
  have HHR : Hid (HR = [] ++ pick carW [x0] ++ pick numW [x1] ++ pick perW [x2] ++ pick lgsW [x3]) := Lib.hid (by rw [hHR, hdR, hdF, hx0, hx1, hx2, hx3]; simp)
  clear hHR
  have hb1 := bel_alloc w (.cells #[.string f.car, .int .i64 f.num, .int .i64 f.pf, .int .i64 f.pt, .int .i64 f.pd, .slice f.A f.lg.length f.c] fliT)
  have q0 := (cells_new w #[.string f.car, .int .i64 f.num, .int .i64 f.pf, .int .i64 f.pt, .int .i64 f.pd, .slice f.A f.lg.length f.c] fliT 0).trans (show _ = some (.string f.car) from rfl)
  have q1 := (cells_new w #[.string f.car, .int .i64 f.num, .int .i64 f.pf, .int .i64 f.pt, .int .i64 f.pd, .slice f.A f.lg.length f.c] fliT 1).trans (show _ = some (.int .i64 f.num) from rfl)
  have q2 := (cells_new w #[.string f.car, .int .i64 f.num, .int .i64 f.pf, .int .i64 f.pt, .int .i64 f.pd, .slice f.A f.lg.length f.c] fliT 2).trans (show _ = some (.int .i64 f.pf) from rfl)
  have q3 := (cells_new w #[.string f.car, .int .i64 f.num, .int .i64 f.pf, .int .i64 f.pt, .int .i64 f.pd, .slice f.A f.lg.length f.c] fliT 3).trans (show _ = some (.int .i64 f.pt) from rfl)
  have q4 := (cells_new w #[.string f.car, .int .i64 f.num, .int .i64 f.pf, .int .i64 f.pt, .int .i64 f.pd, .slice f.A f.lg.length f.c] fliT 4).trans (show _ = some (.int .i64 f.pd) from rfl)
  have q5 := (cells_new w #[.string f.car, .int .i64 f.num, .int .i64 f.pf, .int .i64 f.pt, .int .i64 f.pd, .slice f.A f.lg.length f.c] fliT 5).trans (show _ = some (.slice f.A f.lg.length f.c) from rfl)
  have KC := Lib.hid (fun w => rcarrier_any f.car w hc0)
  have KP := Lib.hid (fun w => Per.rcheck_any f.pf f.pt f.pd w)
  rw [← hx2] at KP
  have HX0 := Lib.hid hx0
  have HX1 := Lib.hid hx1
  have HX3 := Lib.hid hx3
  have hbw := hb1.size
  clear hx0 hx1 hx2 hx3
  go_enter Try.func14, Try.ntmps14
  go_upto_region 2 with fail
  generalize hw5 : w.alloc (.cells #[.string f.car, .int .i64 f.num, .int .i64 f.pf, .int .i64 f.pt, .int .i64 f.pd, .slice f.A f.lg.length f.c] fliT) = w5 at *
  clear hw5
  have f1 := bel_get q1
  have f2 := bel_get q2
  have f3 := bel_get q3
  have f4 := bel_get q4
  have f5 := bel_get q5
  clear q1 q2 q3 q4 q5
  generalize hbc : carB f.car = bc at *
  go_upto_if 7 with (go_at_call 41; refine (KC.out _).mono ?_; rintro e w1 ⟨rfl, rfl⟩)
  go_cut [3] from 4 (fun v wx => Hid (FOwn w5.heap.size wx v ([] ++ pick carW [x0]) ∧ SW w5 wx))
  case first =>
    have hO : FOwn w5.heap.size w5 (.slice none 0 0) [] := ROwn.nil (Nat.le_refl _)
    cases bc with
    | true =>
      have HX : Hid (x0 = 0) := Lib.hid (by rw [HX0.out]; rfl)
      go_wp2
      go_meet
      exact Lib.hid ⟨by rw [HX.out]; exact hO, Below.refl _ _⟩
    | false =>
      have HX : Hid (x0 = 5) := Lib.hid (by rw [HX0.out]; rfl)
      go_wp2_with (at_builtin; refine wpList_rapp rtF rfl _ _ rfl hO rfl (bel_alloc _ _) _ (5, carW) _ rfl (cs := #[.int .i64 5, .string carW]) rfl (heap_alloc_new _ _) (by simp) ?_; intro v1 w1 hO1 hC1)
      go_meet
      exact Lib.hid ⟨by rw [HX.out]; exact hO1, hC1.below hO⟩
  case rest =>
    have hO := hcut.out.1
    have hS := hcut.out.2
    have k1 := f1 _ hS
    clear hcut
    go_upto_region 4 with fail
    go_cut [19] from 4 (fun v wx => v = .bool (!numB f.num) ∧ wx = wc)
    case first =>
      have HU : Hid ((!numB f.num) = (decide (f.num < 1) || decide (9999 < f.num))) := Lib.hid (by
        unfold numB
        by_cases h1 : 1 ≤ f.num <;> by_cases h2 : f.num ≤ 9999 <;> simp [h1, h2] <;> omega)
      by_cases h1 : f.num < 1
      · go_wp2
        go_meet
        exact ⟨by rw [HU.out]; first | (simp [h1]; done) | (simp [h1]; omega), rfl⟩
      · go_wp2
        go_meet
        exact ⟨by rw [HU.out]; first | (simp [h1]; done) | (simp [h1]; omega), rfl⟩
    case rest =>
      obtain ⟨rfl, hwc⟩ := hcut
      obtain rfl := hwc
      generalize hbn : numB f.num = bn at *
      go_upto_if 19 with fail
      have HLn : Hid (([] ++ pick carW [x0]).length ≤ 100000000) := Lib.hid (by have h0 := pick_le carW [x0]; have h1 := pick_le numW [x1]; have h2 := pick_le perW [x2]; simp only [List.length_append, List.length_cons, List.length_nil] at h0 h1 h2 ⊢; omega)
      go_cut [3] from 4 (fun v wx => Hid (FOwn w5.heap.size wx v ([] ++ pick carW [x0] ++ pick numW [x1]) ∧ SW w5 wx))
      case first =>
        cases bn with
        | true =>
          have HX : Hid (x1 = 0) := Lib.hid (by rw [HX1.out]; rfl)
          go_wp2
          go_meet
          exact Lib.hid ⟨by rw [HX.out]; simpa [pick_zero] using hO, hS⟩
        | false =>
          have HX : Hid (x1 = 2) := Lib.hid (by rw [HX1.out]; rfl)
          go_wp2_with (at_builtin; refine wpList_rapp rtF rfl _ _ rfl hO rfl (bel_alloc _ _) _ (2, numW) _ rfl (cs := #[.int .i64 2, .string numW]) rfl (heap_alloc_new _ _) HLn.out ?_; intro v1 w1 hO1 hC1)
          go_meet
          exact Lib.hid ⟨by rw [HX.out]; exact hO1, Below.trans hS (hC1.below hO)⟩
      case rest =>
        have hO := hcut.out.1
        have hS := hcut.out.2
        have k2 := f2 _ hS
        have k3 := f3 _ hS
        have k4 := f4 _ hS
        clear hcut HLn
        go_upto_region 6 with fail
        go_cut [27] from 4 (fun v wx => v = .bool (x2 != 0) ∧ SW wc wx)
        case first =>
          go_wp2_with (go_at_call 42; refine (KP.out _).mono ?_; rintro e w2 ⟨rfl, hb2⟩)
          go_meet
          exact ⟨rfl, hb2⟩
        case rest =>
          obtain ⟨rfl, hS2⟩ := hcut
          have hO := hO.more hS2
          have hS : SW w5 wc := Below.trans hS (Below.mono hS2 hS.size)
          have k2 := f2 _ hS
          have k3 := f3 _ hS
          have k4 := f4 _ hS
          clear hS2
          have HLn : Hid (([] ++ pick carW [x0] ++ pick numW [x1]).length ≤ 100000000) := Lib.hid (by have h0 := pick_le carW [x0]; have h1 := pick_le numW [x1]; have h2 := pick_le perW [x2]; simp only [List.length_append, List.length_cons, List.length_nil] at h0 h1 h2 ⊢; omega)
          go_upto_if 27 with fail
          go_cut [3] from 4 (fun v wx => Hid (FOwn w5.heap.size wx v ([] ++ pick carW [x0] ++ pick numW [x1] ++ pick perW [x2]) ∧ SW w5 wx))
          case first =>
            cases hb : (x2 != 0) with
            | false =>
              have HX : Hid (x2 = 0) := Lib.hid (by simpa using hb)
              go_wp2
              go_meet
              exact Lib.hid ⟨by rw [HX.out]; simpa [pick_zero] using hO, hS⟩
            | true =>
              have HX : Hid (x2 ≠ 0) := Lib.hid (by simpa using hb)
              go_wp2_with (first
                | (go_at_call 42; refine (KP.out _).mono ?_; rintro e w2 ⟨rfl, hb2⟩; have hO := hO.more hb2; have hS : SW w5 w2 := Below.trans hS (Below.mono hb2 hS.size))
                | (at_builtin; refine wpList_rapp rtF rfl _ _ rfl hO rfl (bel_alloc _ _) _ (x2, perW) _ rfl (cs := #[.int .i64 x2, .string perW]) rfl (heap_alloc_new _ _) HLn.out ?_; intro v1 w1 hO1 hC1))
              go_meet
              exact Lib.hid ⟨by rw [pick_one perW x2 HX.out]; exact hO1, Below.trans hS (hC1.below hO)⟩
          case rest =>
            have hO := hcut.out.1
            have hS := hcut.out.2
            have k5 := f5 _ hS
            clear hcut HLn
            go_upto_region 8 with fail
            go_cut [44] from 4 (fun v wx => v = .bool (!cntB f.lg.length) ∧ wx = wc)
            case first =>
              have HU : Hid ((!cntB f.lg.length) = (decide ((f.lg.length : Int) < 1) || decide ((6 : Int) < (f.lg.length : Int)))) := Lib.hid (by
                unfold cntB
                by_cases h1 : 1 ≤ f.lg.length <;> by_cases h2 : f.lg.length ≤ 6 <;> simp [h1, h2] <;> omega)
              by_cases h1 : (f.lg.length : Int) < 1
              · go_wp2
                go_meet
                exact ⟨by rw [HU.out]; first | (simp [h1]; done) | (simp [h1]; omega), rfl⟩
              · go_wp2
                go_meet
                exact ⟨by rw [HU.out]; first | (simp [h1]; done) | (simp [h1]; omega), rfl⟩
            case rest =>
              obtain ⟨rfl, hwc⟩ := hcut
              obtain rfl := hwc
              generalize hbl : cntB f.lg.length = bl at *
              have HLn : Hid (([] ++ pick carW [x0] ++ pick numW [x1] ++ pick perW [x2]).length ≤ 100000000) := Lib.hid (by have h0 := pick_le carW [x0]; have h1 := pick_le numW [x1]; have h2 := pick_le perW [x2]; simp only [List.length_append, List.length_cons, List.length_nil] at h0 h1 h2 ⊢; omega)
              have hbB : Below w.heap.size w w5 := hb1
              cases bl with
              | true =>
                have HX : Hid (x3 = 0) := Lib.hid (by rw [HX3.out]; rfl)
                have HZ : Hid (HR = [] ++ pick carW [x0] ++ pick numW [x1] ++ pick perW [x2]) := Lib.hid (by rw [HHR.out, HX.out, pick_zero, List.append_nil])
                go_wp2
                go_ret
                exact ⟨_, rfl, by rw [HZ.out]; exact ⟨hO.own.mono hbB.size, Nat.le_trans hbB.size hO.base⟩, hbB.trans (Below.mono hS hbB.size)⟩
              | false =>
                have HX : Hid (x3 = 4) := Lib.hid (by rw [HX3.out]; rfl)
                have HZ : Hid (HR = [] ++ pick carW [x0] ++ pick numW [x1] ++ pick perW [x2] ++ [(4, lgsW)]) := Lib.hid (by rw [HHR.out, HX.out]; rfl)
                go_wp2_with (at_builtin; refine wpList_rapp rtF rfl _ _ rfl hO rfl (bel_alloc _ _) _ (4, lgsW) _ rfl (cs := #[.int .i64 4, .string lgsW]) rfl (heap_alloc_new _ _) HLn.out ?_; intro v1 w1 hO1 hC1)
                go_ret
                exact ⟨v1, rfl, by rw [HZ.out]; exact ⟨hO1.own.mono hbB.size, Nat.le_trans hbB.size hO1.base⟩, hbB.trans ((Below.trans hS (hC1.below hO)).mono hbB.size)⟩

end Go.Proofs.Ytmmpalnalogfnaa

/- Walks of the reference's Offset, Local, UTC, times, Exists and Twice. -/
namespace Go.Proofs.Ytmmpalnalogfnaa.Zon
open Go.RowKit Go.Shelf
set_option linter.unusedSimpArgs false
set_option linter.unusedVariables false

set_option maxRecDepth 100000 in
set_option maxHeartbeats 2000000 in
theorem rutc_any (o : Int) (A : Option Addr) (c : Nat) (l : Shs) (x : Int) (w : World) (ok : OkZ o l) (hL : ShL w A l) (hu : -1099511627776 ≤ x ∧ x ≤ 1099511627776) :
    Calls Try.prog 73 #[encZ o A l.length c, .int .i64 x] w fun e w' => e = .returned (.int .i64 (utcZ o l x)) ∧ Below w.heap.size w w' := by
  have hb0 := bel_alloc w (.cells #[.int .i64 o, .slice A l.length c] zoneT)
  have z0 := cells_new w #[.int .i64 o, .slice A l.length c] zoneT 0
  have z1 := cells_new w #[.int .i64 o, .slice A l.length c] zoneT 1
  simp only [List.getElem?_toArray, List.getElem?_cons_zero, List.getElem?_cons_succ] at z0 z1
  have hL0 := hL.more hb0
  have HU := Lib.hid (rut_is ok x)
  have hl := ok.len
  have ho := ok.off
  have hat := ok.at'
  have hsh := ok.shift
  clear hL ok
  generalize utcZ o l x = res at *
  go_enter Try.func73, Try.ntmps73
  go_wp2
  generalize hw0 : w.alloc (.cells #[.int .i64 o, .slice A l.length c] zoneT) = w0 at *
  go_loopw [5, 6] (fun vu vi wr => ∃ (k : Nat) (u : Int), k ≤ l.length ∧ vi = .int .i64 k ∧ vu = .int .i64 u ∧ Hid (rut l x (l.length - k) k u = res) ∧ Below w0.heap.size w0 wr) (fun _ vi _ => l.length - (intOf vi).toNat)
  case atStart => exact ⟨0, x - o, Nat.zero_le _, rfl, rfl, HU, Below.refl _ _⟩
  case round =>
    obtain ⟨k, u, hk, rfl, rfl, HK, hb⟩ := hrel
    have y1 := bel_cell hb z1
    by_cases hlt : k < l.length
    · obtain ⟨g, off, rfl, hgl, hcc⟩ := hL0.at hlt
      have i2 : (k : Int) < (l.length : Int) := by omega
      obtain ⟨g0, g1⟩ := hcc k hlt
      have HS := Lib.hid ((rut_step l x u k _ rfl hlt).symm.trans HK.out)
      have ha := hat k hlt
      have hf := hsh k hlt
      clear hcc hL0 hw0 HK hat hsh HU
      generalize shA l k = a at *
      generalize shF l k = f at *
      by_cases h : u < a
      · rw [if_pos h] at HS
        have gk0 := bel_cell hb g0
        go_wp2
        go_ret
        exact ⟨by rw [← HS.out]; rfl, hb0.trans (hb.mono hb0.size)⟩
      · rw [if_neg h] at HS
        have gk0 := bel_cell hb g0
        have q1 := SW.cell y1
        have q2 := SW.cell gk0
        have q3 := SW.cell (bel_cell hb g1)
        go_wp2
        have hNe : Nonempty (Wd (SW wr)) := ⟨⟨_, SW.drew _⟩⟩
        refine quietS (S := SW wr) (by kernel_rfl) (by kernel_rfl) (SW.drew _) ?_
        repeat (first | go_big_quiet_skip | (go_big_quiet_want; go_big_quiet_op; first | go_big_quiet_on | go_big_quiet_call ((fail))))
        refine wpQuiet_nil ?_
        rintro W ⟨⟨_, hW⟩, rfl⟩
        all_goals
          go_wp2
          go_roundw
          case rel => exact ⟨k + 1, max a (x - f), by omega, by go_num, by (first | rfl | (congr 1; omega)), HS, hb.trans (hW.mono hb.size)⟩
          case measure => simp [intOf]; omega
    · obtain rfl : k = l.length := by omega
      go_wp2
      go_ret
      exact ⟨by rw [← HK.out, rut_end _ _ _ _ _ (by omega)]; rfl, hb0.trans (hb.mono hb0.size)⟩

end Go.Proofs.Ytmmpalnalogfnaa.Zon
