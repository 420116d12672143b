/- Walk of checkAirports where there is nothing to report. -/
import Derived.Test.YtfdbfmhgpegchaaDoorPlaK
import Derived.Test.YtfdbfmhgpegchaaDoorPlaN
import Derived.Deep.RegionHeld3
namespace Go.Proofs.YtfdbfmhgpegchaaDoor
open Go.RowKit Go.Shelf
set_option linter.unusedSimpArgs false
set_option linter.unusedVariables false

abbrev errT : TypeId := 41
theorem zero4 (W : World) : ∀ k, k < 4 → (W.alloc (.cells #[.int .i64 0, .int .i64 0, .int .i64 0, .int .i64 0] errT)).cell? ⟨W.heap.size, k, none⟩ = some (.int .i64 0) := by
  intro k hk
  rw [cells_new]
  have : k = 0 ∨ k = 1 ∨ k = 2 ∨ k = 3 := by omega
  rcases this with rfl | rfl | rfl | rfl <;> rfl
/-- there is nothing to report of airports -/
def NoA (l : List Air) : Prop := ∀ (k : Nat) (a : Air), l[k]? = some a → codesB a = true ∧ (l.take k).any (fun b => decide (b.code = a.code)) = false ∧ (∀ b, (l.take k).find? (fun b => decide (b.city = a.city)) = some b → b.land = a.land) ∧ errZ a.off a.shs = 0
def gC (L : List Air) (c : ByteArray) : Option Value := if L.any (fun b => decide (b.code = c)) then some (.bool true) else none
def gL (L : List Air) (c : ByteArray) : Option Value := (L.find? (fun b => decide (b.city = c))).map fun b => .string b.land
theorem gC_put (L : List Air) (a : Air) : (fun c' => if c' = a.code then some (Value.bool true) else gC L c') = gC (L ++ [a]) := by
  funext c
  unfold gC
  by_cases e : c = a.code
  · subst e; simp
  · have e' : ¬ a.code = c := fun h => e h.symm
    simp [e, e']
theorem gL_new (L : List Air) (a : Air) (h : L.find? (fun b => decide (b.city = a.city)) = none) : (fun c' => if c' = a.city then some (Value.string a.land) else gL L c') = gL (L ++ [a]) := by
  funext c
  unfold gL
  by_cases e : c = a.city
  · subst e; rw [List.find?_append, h]; simp
  · have e' : ¬ a.city = c := fun h => e h.symm
    rw [List.find?_append]; simp [e, e']
theorem gL_old (L : List Air) (a b : Air) (h : L.find? (fun b => decide (b.city = a.city)) = some b) : gL (L ++ [a]) = gL L := by
  funext c
  unfold gL
  by_cases e : c = a.city
  · subst e; rw [List.find?_append, h]; simp
  · have e' : ¬ a.city = c := fun h => e h.symm
    rw [List.find?_append]; simp [e']

theorem ShL.but' {w w' : World} {X : Nat → Prop} {A : Option Addr} {l : Shs} (h : ShL w A l) (hb : But w w' X) (hA : l = [] ∨ A = none ∨ ∃ g o, A = some ⟨g, o, none⟩ ∧ ¬ X g) : ShL w' A l := by
  rcases h with h | ⟨b, o, rfl, hlt, hc⟩
  · exact .inl h
  · rcases hA with h | h | ⟨g, o', e, hx⟩
    · exact .inl h
    · cases h
    · cases e
      exact .inr ⟨b, o, rfl, Nat.lt_of_lt_of_le hlt hb.size, fun i hi => ⟨(World.cell?_of_block (a := ⟨b, o + i * 2, none⟩) (hb.block b hlt hx)).trans (hc i hi).1, (World.cell?_of_block (a := ⟨b, o + i * 2 + 1, none⟩) (hb.block b hlt hx)).trans (hc i hi).2⟩⟩

set_option maxRecDepth 100000 in
set_option maxHeartbeats 8000000 in
theorem airports0_any (A : Option Addr) (c : Nat) (l : List Air) (w : World) (hl : l.length ≤ 40) (hL : AirL w A l) (hok : ∀ a ∈ l, OkA a) (hno : NoA l) :
    Calls Tryd.prog 25 #[.slice A l.length c] w fun e w' => e = .returned nilS ∧ Below w.heap.size w w' := by
  have hmm := @run_makeMap Tryd.prog
  have b1 := bel_alloc w (.map #[] 0)
  have b2 := bel_alloc (w.alloc (.map #[] 0)) (.map #[] 0)
  have b3 := bel_alloc ((w.alloc (.map #[] 0)).alloc (.map #[] 0)) (.map #[] 0)
  have m1 : MapS (((w.alloc (.map #[] 0)).alloc (.map #[] 0)).alloc (.map #[] 0)) w.heap.size 0 (gC (l.take 0)) := ((MapK.made w _ _ _).more b2).more b3
  have m2 : MapS (((w.alloc (.map #[] 0)).alloc (.map #[] 0)).alloc (.map #[] 0)) (w.heap.size + 1) 0 (gL (l.take 0)) := by
    have := (MapK.made (w.alloc (.map #[] 0)) Tryd.prog 9 Value.string).more b3
    rw [World.size_alloc] at this
    exact this
  have m3 : MapS (((w.alloc (.map #[] 0)).alloc (.map #[] 0)).alloc (.map #[] 0)) (w.heap.size + 1 + 1) 0 (fun _ => none) := by
    have := MapK.made ((w.alloc (.map #[] 0)).alloc (.map #[] 0)) Tryd.prog 9 Value.string
    rw [World.size_alloc, World.size_alloc] at this
    exact this
  have hb0 : Below w.heap.size w (((w.alloc (.map #[] 0)).alloc (.map #[] 0)).alloc (.map #[] 0)) := (b1.alloc b1.size _).alloc (by simp; omega) _
  clear b1 b2 b3
  have HNO := Lib.hid hno
  clear hno
  go_enter Tryd.func25, Tryd.ntmps25
  go_wp2
  generalize ((w.alloc (.map #[] 0)).alloc (.map #[] 0)).alloc (.map #[] 0) = w0 at *
  go_loopw [3, 16] (fun s3 vi wr => ∃ (k n1 n2 : Nat), s3 = nilS ∧ k ≤ l.length ∧ vi = .int .i64 k ∧ n1 ≤ k ∧ n2 ≤ k ∧ Hid (MapS wr w.heap.size n1 (gC (l.take k)) ∧ MapS wr (w.heap.size + 1) n2 (gL (l.take k)) ∧ MapS wr (w.heap.size + 1 + 1) 0 (fun _ => none) ∧ Below w.heap.size w wr)) (fun _ vi _ => l.length - (intOf vi).toNat)
  case atStart => exact ⟨0, 0, 0, rfl, Nat.zero_le _, rfl, Nat.le_refl _, Nat.le_refl _, Lib.hid ⟨m1, m2, m3, hb0⟩⟩
  case round =>
    obtain ⟨k, n1, n2, rfl, hk, rfl, hn1, hn2, HH⟩ := hrel
    clear m1 m2 m3 hb0
    by_cases hlt : k < l.length
    · obtain ⟨bb, off, a, rfl, hgl, hka, ha⟩ := (hL.more HH.out.2.2.2).at hlt
      obtain ⟨a0, a1, a2, a3, a4, ash⟩ := ha
      have i2 : (k : Int) < (l.length : Int) := by omega
      obtain ⟨s1, s2, s3, s4, s5⟩ := hok a (List.mem_of_getElem? hka)
      obtain ⟨e1, e2, e3, e4⟩ := HNO.out k a hka
      have hT : l.take (k + 1) = l.take k ++ [a] := by rw [List.take_add_one, hka]; rfl
      have hbN := bel_alloc wr (.cells #[.string a.code, .string a.city, .string a.land, .int .i64 a.off, .slice a.A a.shs.length a.c] airT)
      have lkS := lookS (HH.out.2.1.more hbN) a.city s2
      have q0 := cells_new wr #[.string a.code, .string a.city, .string a.land, .int .i64 a.off, .slice a.A a.shs.length a.c] airT 0
      have q1 := cells_new wr #[.string a.code, .string a.city, .string a.land, .int .i64 a.off, .slice a.A a.shs.length a.c] airT 1
      have q2 := cells_new wr #[.string a.code, .string a.city, .string a.land, .int .i64 a.off, .slice a.A a.shs.length a.c] airT 2
      have q3 := cells_new wr #[.string a.code, .string a.city, .string a.land, .int .i64 a.off, .slice a.A a.shs.length a.c] airT 3
      have q4 := cells_new wr #[.string a.code, .string a.city, .string a.land, .int .i64 a.off, .slice a.A a.shs.length a.c] airT 4
      simp only [List.getElem?_toArray, List.getElem?_cons_zero, List.getElem?_cons_succ] at q0 q1 q2 q3 q4
      have hNne : wr.heap.size ≠ w.heap.size + 1 := by have := HH.out.2.1.lt; omega
      have hbW := HH.out.2.2.2
      have hbw5 : Below w.heap.size w (wr.alloc (.cells #[.string a.code, .string a.city, .string a.land, .int .i64 a.off, .slice a.A a.shs.length a.c] airT)) := hbW.trans (hbN.mono hbW.size)
      have mm1 := HH.out.1.more hbN
      have mm20 := HH.out.2.1.more hbN
      have mm3 := HH.out.2.2.1.more hbN
      have ash5 := ash.more hbN
      have hNe1 : wr.heap.size ≠ w.heap.size + 1 := hNne
      have h12 : w.heap.size ≠ w.heap.size + 1 := by omega
      have h32 : w.heap.size + 1 + 1 ≠ w.heap.size + 1 := by omega
      have hsr : Hid (a.shs = [] ∨ a.A = none ∨ ∃ g o, a.A = some ⟨g, o, none⟩ ∧ ¬ g = w.heap.size + 1) := Lib.hid (by
        obtain ⟨bb', off', a', e, _, hka', ha'⟩ := hL.at hlt
        rw [hka] at hka'
        cases hka'
        rcases ha'.sh with h | ⟨g, o, h, hg, _⟩
        · exact .inl h
        · exact .inr (.inr ⟨g, o, h, by omega⟩))
      clear HH hL hka
      cases hf : (l.take k).find? (fun b => decide (b.city = a.city)) with
      | none =>
        rw [show gL (l.take k) a.city = none by unfold gL; rw [hf]; rfl] at lkS
        go_wp2_with (at_mapUpdate; refine wpList_put rfl _ _ _ 74 rfl strK str_inj Tryd.underlying74 rfl mm20 (by unfold maxLen; omega) a.city _ rfl (str_key a.city s2) ?_; intro w5 hm5 hg5; refine Hid.out ?_)
        have mm2 : MapS w5 (w.heap.size + 1) (n2 + 1) (gL (l.take (k + 1))) := by rw [hT, ← gL_new _ _ hf]; exact hm5
        have mm1 := mm1.grown hg5 (fun e => h12 (Option.some.inj e))
        have mm3 := mm3.grown hg5 (fun e => h32 (Option.some.inj e))
        have q0 := hg5.cell q0 (fun e => hNe1 (Option.some.inj e))
        have q1 := hg5.cell q1 (fun e => hNe1 (Option.some.inj e))
        have q2 := hg5.cell q2 (fun e => hNe1 (Option.some.inj e))
        have q3 := hg5.cell q3 (fun e => hNe1 (Option.some.inj e))
        have q4 := hg5.cell q4 (fun e => hNe1 (Option.some.inj e))
        have hb5 : Below w.heap.size w w5 := hbw5.grown hg5 hbw5.size (fun k hk => by cases hk; omega)
        have ash5 : ShL w5 a.A a.shs := ShL.but' ash5 (X := fun k => k = w.heap.size + 1) ⟨hg5.os, hg5.tape, hg5.output, hg5.size, fun k hk hn => hg5.block k hk (fun e => hn (Option.some.inj e))⟩ hsr.out
        clear hm5 mm20 lkS
        refine Lib.hid ?_
        go_wp2
        have f0 := bel_get q0
        have f1 := bel_get q1
        have f2 := bel_get q2
        have f3 := bel_get q3
        have f4 := bel_get q4
        have lk1 : ∀ W, SW w5 W → (Instr.lookup 73 (.map (some w.heap.size)) (.string a.code) false).run Tryd.prog W = .ok (.bool false) W := fun W hW => by
          have h := lookB (mm1.more hW) a.code s1
          rw [show gC (l.take k) a.code = none by unfold gC; rw [e2]; rfl] at h
          exact h
        have lk2 : ∀ W, SW w5 W → (Instr.lookup 73 (.map (some (w.heap.size + 1 + 1))) (.string a.city) false).run Tryd.prog W = .ok (.bool false) W := fun W hW => lookB (mm3.more hW) a.city s2
        have K1 := Lib.hid (SW.call (w5 := w5) (fun W hW => codes_any a W s1 s2 s3))
        have KZ := Lib.hid (SW.call (w5 := w5) (fun W hW => check_any a.off a.A a.c a.shs W s4 (ash5.more hW) s5))
        have KW : Hid (∀ (e : Int) W, SW w5 W → Calls Tryd.prog 39 #[.bool false, .int .i64 e] W fun r w' => r = .returned (.int .i64 0) ∧ SW w5 w') := Lib.hid (fun e W hW => (when_any false e W).mono (by rintro r w' ⟨rfl, rfl⟩; exact ⟨rfl, hW⟩))
        rw [e1] at K1
        rw [e4] at KZ
        have MM1 := Lib.hid mm1
        have MM2 := Lib.hid mm2
        have MM3 := Lib.hid mm3
        have HT := Lib.hid hT
        clear mm1 mm2 mm3 e2 e3 hT ash5 q0 q1 q2 q3 q4
        have hS : (SW w5) _ := SW.drew w5
        refine wp_region_held_drew (S := SW w5) (by kernel_rfl) hS (fun _ => ?_)
        refine wpAnyH_take (i := 0) (v := ?vR0) rfl (by kernel_rfl) (by kernel_rfl) (by kernel_rfl) (fun _ _ _ h => h) (Or.inl ⟨by rfl, ?hyR0⟩) hS ?restR0
        case hyR0 =>
          intro w hSw
          first | (go_simp; done) | (go_simp; with_reducible rfl)
        try simp only [Act.put, List.setIfInBounds_toArray, List.set_cons_zero, List.set_cons_succ]
        refine wpAnyH_take (i := 1) (v := ?vR1) rfl (by kernel_rfl) (by kernel_rfl) (by kernel_rfl) (fun _ _ _ h => h) (Or.inl ⟨by rfl, ?hyR1⟩) hS ?restR1
        case hyR1 =>
          intro w hSw
          first | (go_simp; done) | (go_simp; with_reducible rfl)
        try simp only [Act.put, List.setIfInBounds_toArray, List.set_cons_zero, List.set_cons_succ]
        refine wpAnyH_take (i := 2) (v := ?vR2) rfl (by kernel_rfl) (by kernel_rfl) (by kernel_rfl) (fun _ _ _ h => h) (Or.inl ⟨by rfl, ?hyR2⟩) hS ?restR2
        case hyR2 =>
          intro w hSw
          have k0 := f0 w hSw; have k1 := f1 w hSw; have k2 := f2 w hSw; have k3 := f3 w hSw; have k4 := f4 w hSw; have k5 := lk1 w hSw; have k6 := lk2 w hSw
          first | (go_simp; done) | (go_simp; with_reducible rfl)
        try simp only [Act.put, List.setIfInBounds_toArray, List.set_cons_zero, List.set_cons_succ]
        refine wpAnyH_take (i := 6) (v := ?vR6) rfl (by kernel_rfl) (by kernel_rfl) (by kernel_rfl) (fun _ _ _ h => h) (Or.inl ⟨by rfl, ?hyR6⟩) hS ?restR6
        case hyR6 =>
          intro w hSw
          first | (go_simp; done) | (go_simp; with_reducible rfl)
        try simp only [Act.put, List.setIfInBounds_toArray, List.set_cons_zero, List.set_cons_succ]
        refine wpAnyH_take (i := 7) (v := ?vR7) rfl (by kernel_rfl) (by kernel_rfl) (by kernel_rfl) (fun _ _ _ h => h) (Or.inl ⟨by rfl, ?hyR7⟩) hS ?restR7
        case hyR7 =>
          intro w hSw
          first | (go_simp; done) | (go_simp; with_reducible rfl)
        try simp only [Act.put, List.setIfInBounds_toArray, List.set_cons_zero, List.set_cons_succ]
        refine wpAnyH_take (i := 8) (v := ?vR8) rfl (by kernel_rfl) (by kernel_rfl) (by kernel_rfl) (fun _ _ _ h => h) (Or.inl ⟨by rfl, ?hyR8⟩) hS ?restR8
        case hyR8 =>
          intro w hSw
          have k0 := f0 w hSw; have k1 := f1 w hSw; have k2 := f2 w hSw; have k3 := f3 w hSw; have k4 := f4 w hSw; have k5 := lk1 w hSw; have k6 := lk2 w hSw
          first | (go_simp; done) | (go_simp; with_reducible rfl)
        try simp only [Act.put, List.setIfInBounds_toArray, List.set_cons_zero, List.set_cons_succ]
        refine wpAnyH_take (i := 9) (v := ?vR9) rfl (by kernel_rfl) (by kernel_rfl) (by kernel_rfl) (fun _ _ _ h => h) (Or.inl ⟨by rfl, ?hyR9⟩) hS ?restR9
        case hyR9 =>
          intro w hSw
          have k0 := f0 w hSw; have k1 := f1 w hSw; have k2 := f2 w hSw; have k3 := f3 w hSw; have k4 := f4 w hSw; have k5 := lk1 w hSw; have k6 := lk2 w hSw
          first | (go_simp; done) | (go_simp; with_reducible rfl)
        try simp only [Act.put, List.setIfInBounds_toArray, List.set_cons_zero, List.set_cons_succ]
        refine wpAnyH_take (i := 11) (v := ?vR11) rfl (by kernel_rfl) (by kernel_rfl) (by kernel_rfl) (fun _ _ _ h => h) (Or.inl ⟨by rfl, ?hyR11⟩) hS ?restR11
        case hyR11 =>
          intro w hSw
          first | (go_simp; done) | (go_simp; with_reducible rfl)
        try simp only [Act.put, List.setIfInBounds_toArray, List.set_cons_zero, List.set_cons_succ]
        refine wpAnyH_take (i := 12) (v := ?vR12) rfl (by kernel_rfl) (by kernel_rfl) (by kernel_rfl) (fun _ _ _ h => h) (Or.inl ⟨by rfl, ?hyR12⟩) hS ?restR12
        case hyR12 =>
          intro w hSw
          first | (go_simp; done) | (go_simp; with_reducible rfl)
        try simp only [Act.put, List.setIfInBounds_toArray, List.set_cons_zero, List.set_cons_succ]
        refine wpAnyH_take (i := 13) (v := ?vR13) rfl (by kernel_rfl) (by kernel_rfl) (by kernel_rfl) (fun _ _ _ h => h) (Or.inl ⟨by rfl, ?hyR13⟩) hS ?restR13
        case hyR13 =>
          intro w hSw
          have k0 := f0 w hSw; have k1 := f1 w hSw; have k2 := f2 w hSw; have k3 := f3 w hSw; have k4 := f4 w hSw; have k5 := lk1 w hSw; have k6 := lk2 w hSw
          first | (go_simp; done) | (go_simp; with_reducible rfl)
        try simp only [Act.put, List.setIfInBounds_toArray, List.set_cons_zero, List.set_cons_succ]
        refine wpAnyH_take (i := 14) (v := ?vR14) rfl (by kernel_rfl) (by kernel_rfl) (by kernel_rfl) (fun _ _ _ h => h) (Or.inl ⟨by rfl, ?hyR14⟩) hS ?restR14
        case hyR14 =>
          intro w hSw
          have k0 := f0 w hSw; have k1 := f1 w hSw; have k2 := f2 w hSw; have k3 := f3 w hSw; have k4 := f4 w hSw; have k5 := lk1 w hSw; have k6 := lk2 w hSw
          first | (go_simp; done) | (go_simp; with_reducible rfl)
        try simp only [Act.put, List.setIfInBounds_toArray, List.set_cons_zero, List.set_cons_succ]
        refine wpAnyH_take (i := 16) (v := ?vR16) rfl (by kernel_rfl) (by kernel_rfl) (by kernel_rfl) (fun _ _ _ h => h) (Or.inl ⟨by rfl, ?hyR16⟩) hS ?restR16
        case hyR16 =>
          intro w hSw
          first | (go_simp; done) | (go_simp; with_reducible rfl)
        try simp only [Act.put, List.setIfInBounds_toArray, List.set_cons_zero, List.set_cons_succ]
        refine wpAnyH_take (i := 17) (v := ?vR17) rfl (by kernel_rfl) (by kernel_rfl) (by kernel_rfl) (fun _ _ _ h => h) (Or.inl ⟨by rfl, ?hyR17⟩) hS ?restR17
        case hyR17 =>
          intro w hSw
          have k0 := f0 w hSw; have k1 := f1 w hSw; have k2 := f2 w hSw; have k3 := f3 w hSw; have k4 := f4 w hSw; have k5 := lk1 w hSw; have k6 := lk2 w hSw
          first | (go_simp; done) | (go_simp; with_reducible rfl)
        try simp only [Act.put, List.setIfInBounds_toArray, List.set_cons_zero, List.set_cons_succ]
        refine wpAnyH_ready (rs := [3]) (by kernel_rfl) (by simp) ?_
        refine AllReadyH.cons rfl (fun K hK => ?_) AllReadyH.nil
        go_simp
        go_wp2_with ((go_at_call 40; refine (K1.out _ hS).mono ?_; rintro e w' ⟨rfl, hS⟩))
        refine hK.out _ _ hS (fun _ => ?_)
        clear hK K
        refine wpAnyH_take (i := 4) (v := ?vR4) rfl (by kernel_rfl) (by kernel_rfl) (by kernel_rfl) (fun _ _ _ h => h) (Or.inl ⟨by rfl, ?hyR4⟩) hS ?restR4
        case hyR4 =>
          intro w hSw
          first | (go_simp; done) | (go_simp; with_reducible rfl)
        try simp only [Act.put, List.setIfInBounds_toArray, List.set_cons_zero, List.set_cons_succ]
        refine wpAnyH_ready (rs := [5]) (by kernel_rfl) (by simp) ?_
        refine AllReadyH.cons rfl (fun K hK => ?_) AllReadyH.nil
        go_simp
        go_wp2_with ((go_at_call 39; refine (KW.out _ _ hS).mono ?_; rintro e w' ⟨rfl, hS⟩))
        refine hK.out _ _ hS (fun _ => ?_)
        clear hK K
        refine wpAnyH_ready (rs := [10]) (by kernel_rfl) (by simp) ?_
        refine AllReadyH.cons rfl (fun K hK => ?_) AllReadyH.nil
        go_simp
        go_wp2_with ((go_at_call 39; refine (KW.out _ _ hS).mono ?_; rintro e w' ⟨rfl, hS⟩))
        refine hK.out _ _ hS (fun _ => ?_)
        clear hK K
        refine wpAnyH_ready (rs := [15]) (by kernel_rfl) (by simp) ?_
        refine AllReadyH.cons rfl (fun K hK => ?_) AllReadyH.nil
        go_simp
        go_wp2_with ((go_at_call 39; refine (KW.out _ _ hS).mono ?_; rintro e w' ⟨rfl, hS⟩))
        refine hK.out _ _ hS (fun _ => ?_)
        clear hK K
        refine wpAnyH_ready (rs := [18]) (by kernel_rfl) (by simp) ?_
        refine AllReadyH.cons rfl (fun K hK => ?_) AllReadyH.nil
        go_simp
        go_wp2_with ((go_at_call 41; refine (KZ.out _ hS).mono ?_; rintro e w' ⟨rfl, hS⟩))
        refine hK.out _ _ hS (fun _ => ?_)
        clear hK K
        refine wpAnyH_ready (rs := [19]) (by kernel_rfl) (by simp) ?_
        refine AllReadyH.cons rfl (fun K hK => ?_) AllReadyH.nil
        go_simp
        have hS := hS.trans ((bel_alloc _ (.cells #[.int .i64 0, .int .i64 0, .int .i64 0, .int .i64 0] errT)).mono hS.size)
        refine hK.out _ _ hS (fun _ => ?_)
        clear hK K
        refine wpAnyH_ready (rs := [20]) (by kernel_rfl) (by simp) ?_
        refine AllReadyH.cons rfl (fun K hK => ?_) AllReadyH.nil
        go_simp
        go_wp2_with ((go_at_call 38; refine (report0_any _ _ _ _ 4 4 _ (by omega) (zero4 _)).mono ?_; rintro e w' ⟨rfl, rfl⟩))
        refine hK.out _ _ hS (fun _ => ?_)
        clear hK K
        refine wpAnyH_take (i := 21) (v := ?vR21) rfl (by kernel_rfl) (by kernel_rfl) (by kernel_rfl) (fun _ _ _ h => h) (Or.inl ⟨by rfl, ?hyR21⟩) hS ?restR21
        case hyR21 =>
          intro w hSw
          first | (go_simp; done) | (go_simp; with_reducible rfl)
        try simp only [Act.put, List.setIfInBounds_toArray, List.set_cons_zero, List.set_cons_succ]
        refine wpAnyH_done (by kernel_rfl) ?_ _
        have x0 := f0 _ hS
        have hm := MM1.out.more hS
        have hB12 : w.heap.size ≠ w.heap.size + 1 := by omega
        have hB13 : w.heap.size ≠ w.heap.size + 1 + 1 := by omega
        go_wp2_with (at_mapUpdate; refine wpList_put rfl _ _ _ 73 rfl strK str_inj Tryd.underlying73 rfl hm (by unfold maxLen; omega) a.code _ rfl (str_key a.code s1) ?_; intro w9 hm9 hg9; refine Hid.out ?_)
        have hb9 : Below w.heap.size w w9 := (hb5.trans (Below.mono hS hb5.size)).grown hg9 (Nat.le_trans hb5.size hS.size) (fun k hk => by cases hk; exact Nat.le_refl _)
        have HX : Hid (MapS w9 w.heap.size (n1 + 1) (gC (l.take (k + 1))) ∧ MapS w9 (w.heap.size + 1) (n2 + 1) (gL (l.take (k + 1))) ∧ MapS w9 (w.heap.size + 1 + 1) 0 (fun _ => none) ∧ Below w.heap.size w w9) := Lib.hid ⟨by rw [HT.out, ← gC_put]; exact hm9, (MM2.out.more hS).grown hg9 (fun e => hB12 (Option.some.inj e).symm), (MM3.out.more hS).grown hg9 (fun e => hB13 (Option.some.inj e).symm), hb9⟩
        clear hm hm9
        refine Lib.hid ?_
        go_wp2
        go_roundw
        case rel => exact ⟨k + 1, n1 + 1, (n2 + 1), rfl, by omega, by go_num, by omega, by omega, HX⟩
        case measure => simp [intOf]; omega
      | some b =>
        have hbl := e3 b hf
        rw [show gL (l.take k) a.city = some (.string a.land) by unfold gL; rw [hf, ← hbl]; rfl] at lkS
        have mm2 : MapS (wr.alloc (.cells #[.string a.code, .string a.city, .string a.land, .int .i64 a.off, .slice a.A a.shs.length a.c] airT)) (w.heap.size + 1) n2 (gL (l.take (k + 1))) := by rw [hT, gL_old _ _ _ hf]; exact mm20
        have hb5 := hbw5
        clear mm20 hbN hbw5
        go_wp2
        generalize wr.alloc (.cells #[.string a.code, .string a.city, .string a.land, .int .i64 a.off, .slice a.A a.shs.length a.c] airT) = w5 at *
        have f0 := bel_get q0
        have f1 := bel_get q1
        have f2 := bel_get q2
        have f3 := bel_get q3
        have f4 := bel_get q4
        have lk1 : ∀ W, SW w5 W → (Instr.lookup 73 (.map (some w.heap.size)) (.string a.code) false).run Tryd.prog W = .ok (.bool false) W := fun W hW => by
          have h := lookB (mm1.more hW) a.code s1
          rw [show gC (l.take k) a.code = none by unfold gC; rw [e2]; rfl] at h
          exact h
        have lk2 : ∀ W, SW w5 W → (Instr.lookup 73 (.map (some (w.heap.size + 1 + 1))) (.string a.city) false).run Tryd.prog W = .ok (.bool false) W := fun W hW => lookB (mm3.more hW) a.city s2
        have K1 := Lib.hid (SW.call (w5 := w5) (fun W hW => codes_any a W s1 s2 s3))
        have KZ := Lib.hid (SW.call (w5 := w5) (fun W hW => check_any a.off a.A a.c a.shs W s4 (ash5.more hW) s5))
        have KW : Hid (∀ (e : Int) W, SW w5 W → Calls Tryd.prog 39 #[.bool false, .int .i64 e] W fun r w' => r = .returned (.int .i64 0) ∧ SW w5 w') := Lib.hid (fun e W hW => (when_any false e W).mono (by rintro r w' ⟨rfl, rfl⟩; exact ⟨rfl, hW⟩))
        rw [e1] at K1
        rw [e4] at KZ
        have MM1 := Lib.hid mm1
        have MM2 := Lib.hid mm2
        have MM3 := Lib.hid mm3
        have HT := Lib.hid hT
        clear mm1 mm2 mm3 e2 e3 hT ash5 q0 q1 q2 q3 q4
        have hS : (SW w5) _ := SW.drew w5
        refine wp_region_held_drew (S := SW w5) (by kernel_rfl) hS (fun _ => ?_)
        refine wpAnyH_take (i := 0) (v := ?vRb0) rfl (by kernel_rfl) (by kernel_rfl) (by kernel_rfl) (fun _ _ _ h => h) (Or.inl ⟨by rfl, ?hyRb0⟩) hS ?restRb0
        case hyRb0 =>
          intro w hSw
          first | (go_simp; done) | (go_simp; with_reducible rfl)
        try simp only [Act.put, List.setIfInBounds_toArray, List.set_cons_zero, List.set_cons_succ]
        refine wpAnyH_take (i := 1) (v := ?vRb1) rfl (by kernel_rfl) (by kernel_rfl) (by kernel_rfl) (fun _ _ _ h => h) (Or.inl ⟨by rfl, ?hyRb1⟩) hS ?restRb1
        case hyRb1 =>
          intro w hSw
          first | (go_simp; done) | (go_simp; with_reducible rfl)
        try simp only [Act.put, List.setIfInBounds_toArray, List.set_cons_zero, List.set_cons_succ]
        refine wpAnyH_take (i := 2) (v := ?vRb2) rfl (by kernel_rfl) (by kernel_rfl) (by kernel_rfl) (fun _ _ _ h => h) (Or.inl ⟨by rfl, ?hyRb2⟩) hS ?restRb2
        case hyRb2 =>
          intro w hSw
          have k0 := f0 w hSw; have k1 := f1 w hSw; have k2 := f2 w hSw; have k3 := f3 w hSw; have k4 := f4 w hSw; have k5 := lk1 w hSw; have k6 := lk2 w hSw
          first | (go_simp; done) | (go_simp; with_reducible rfl)
        try simp only [Act.put, List.setIfInBounds_toArray, List.set_cons_zero, List.set_cons_succ]
        refine wpAnyH_take (i := 6) (v := ?vRb6) rfl (by kernel_rfl) (by kernel_rfl) (by kernel_rfl) (fun _ _ _ h => h) (Or.inl ⟨by rfl, ?hyRb6⟩) hS ?restRb6
        case hyRb6 =>
          intro w hSw
          first | (go_simp; done) | (go_simp; with_reducible rfl)
        try simp only [Act.put, List.setIfInBounds_toArray, List.set_cons_zero, List.set_cons_succ]
        refine wpAnyH_take (i := 7) (v := ?vRb7) rfl (by kernel_rfl) (by kernel_rfl) (by kernel_rfl) (fun _ _ _ h => h) (Or.inl ⟨by rfl, ?hyRb7⟩) hS ?restRb7
        case hyRb7 =>
          intro w hSw
          first | (go_simp; done) | (go_simp; with_reducible rfl)
        try simp only [Act.put, List.setIfInBounds_toArray, List.set_cons_zero, List.set_cons_succ]
        refine wpAnyH_take (i := 8) (v := ?vRb8) rfl (by kernel_rfl) (by kernel_rfl) (by kernel_rfl) (fun _ _ _ h => h) (Or.inl ⟨by rfl, ?hyRb8⟩) hS ?restRb8
        case hyRb8 =>
          intro w hSw
          have k0 := f0 w hSw; have k1 := f1 w hSw; have k2 := f2 w hSw; have k3 := f3 w hSw; have k4 := f4 w hSw; have k5 := lk1 w hSw; have k6 := lk2 w hSw
          first | (go_simp; done) | (go_simp; with_reducible rfl)
        try simp only [Act.put, List.setIfInBounds_toArray, List.set_cons_zero, List.set_cons_succ]
        refine wpAnyH_take (i := 9) (v := ?vRb9) rfl (by kernel_rfl) (by kernel_rfl) (by kernel_rfl) (fun _ _ _ h => h) (Or.inl ⟨by rfl, ?hyRb9⟩) hS ?restRb9
        case hyRb9 =>
          intro w hSw
          have k0 := f0 w hSw; have k1 := f1 w hSw; have k2 := f2 w hSw; have k3 := f3 w hSw; have k4 := f4 w hSw; have k5 := lk1 w hSw; have k6 := lk2 w hSw
          first | (go_simp; done) | (go_simp; with_reducible rfl)
        try simp only [Act.put, List.setIfInBounds_toArray, List.set_cons_zero, List.set_cons_succ]
        refine wpAnyH_take (i := 11) (v := ?vRb11) rfl (by kernel_rfl) (by kernel_rfl) (by kernel_rfl) (fun _ _ _ h => h) (Or.inl ⟨by rfl, ?hyRb11⟩) hS ?restRb11
        case hyRb11 =>
          intro w hSw
          first | (go_simp; done) | (go_simp; with_reducible rfl)
        try simp only [Act.put, List.setIfInBounds_toArray, List.set_cons_zero, List.set_cons_succ]
        refine wpAnyH_take (i := 12) (v := ?vRb12) rfl (by kernel_rfl) (by kernel_rfl) (by kernel_rfl) (fun _ _ _ h => h) (Or.inl ⟨by rfl, ?hyRb12⟩) hS ?restRb12
        case hyRb12 =>
          intro w hSw
          first | (go_simp; done) | (go_simp; with_reducible rfl)
        try simp only [Act.put, List.setIfInBounds_toArray, List.set_cons_zero, List.set_cons_succ]
        refine wpAnyH_take (i := 13) (v := ?vRb13) rfl (by kernel_rfl) (by kernel_rfl) (by kernel_rfl) (fun _ _ _ h => h) (Or.inl ⟨by rfl, ?hyRb13⟩) hS ?restRb13
        case hyRb13 =>
          intro w hSw
          have k0 := f0 w hSw; have k1 := f1 w hSw; have k2 := f2 w hSw; have k3 := f3 w hSw; have k4 := f4 w hSw; have k5 := lk1 w hSw; have k6 := lk2 w hSw
          first | (go_simp; done) | (go_simp; with_reducible rfl)
        try simp only [Act.put, List.setIfInBounds_toArray, List.set_cons_zero, List.set_cons_succ]
        refine wpAnyH_take (i := 14) (v := ?vRb14) rfl (by kernel_rfl) (by kernel_rfl) (by kernel_rfl) (fun _ _ _ h => h) (Or.inl ⟨by rfl, ?hyRb14⟩) hS ?restRb14
        case hyRb14 =>
          intro w hSw
          have k0 := f0 w hSw; have k1 := f1 w hSw; have k2 := f2 w hSw; have k3 := f3 w hSw; have k4 := f4 w hSw; have k5 := lk1 w hSw; have k6 := lk2 w hSw
          first | (go_simp; done) | (go_simp; with_reducible rfl)
        try simp only [Act.put, List.setIfInBounds_toArray, List.set_cons_zero, List.set_cons_succ]
        refine wpAnyH_take (i := 16) (v := ?vRb16) rfl (by kernel_rfl) (by kernel_rfl) (by kernel_rfl) (fun _ _ _ h => h) (Or.inl ⟨by rfl, ?hyRb16⟩) hS ?restRb16
        case hyRb16 =>
          intro w hSw
          first | (go_simp; done) | (go_simp; with_reducible rfl)
        try simp only [Act.put, List.setIfInBounds_toArray, List.set_cons_zero, List.set_cons_succ]
        refine wpAnyH_take (i := 17) (v := ?vRb17) rfl (by kernel_rfl) (by kernel_rfl) (by kernel_rfl) (fun _ _ _ h => h) (Or.inl ⟨by rfl, ?hyRb17⟩) hS ?restRb17
        case hyRb17 =>
          intro w hSw
          have k0 := f0 w hSw; have k1 := f1 w hSw; have k2 := f2 w hSw; have k3 := f3 w hSw; have k4 := f4 w hSw; have k5 := lk1 w hSw; have k6 := lk2 w hSw
          first | (go_simp; done) | (go_simp; with_reducible rfl)
        try simp only [Act.put, List.setIfInBounds_toArray, List.set_cons_zero, List.set_cons_succ]
        refine wpAnyH_ready (rs := [3]) (by kernel_rfl) (by simp) ?_
        refine AllReadyH.cons rfl (fun K hK => ?_) AllReadyH.nil
        go_simp
        go_wp2_with ((go_at_call 40; refine (K1.out _ hS).mono ?_; rintro e w' ⟨rfl, hS⟩))
        refine hK.out _ _ hS (fun _ => ?_)
        clear hK K
        refine wpAnyH_take (i := 4) (v := ?vRb4) rfl (by kernel_rfl) (by kernel_rfl) (by kernel_rfl) (fun _ _ _ h => h) (Or.inl ⟨by rfl, ?hyRb4⟩) hS ?restRb4
        case hyRb4 =>
          intro w hSw
          first | (go_simp; done) | (go_simp; with_reducible rfl)
        try simp only [Act.put, List.setIfInBounds_toArray, List.set_cons_zero, List.set_cons_succ]
        refine wpAnyH_ready (rs := [5]) (by kernel_rfl) (by simp) ?_
        refine AllReadyH.cons rfl (fun K hK => ?_) AllReadyH.nil
        go_simp
        go_wp2_with ((go_at_call 39; refine (KW.out _ _ hS).mono ?_; rintro e w' ⟨rfl, hS⟩))
        refine hK.out _ _ hS (fun _ => ?_)
        clear hK K
        refine wpAnyH_ready (rs := [10]) (by kernel_rfl) (by simp) ?_
        refine AllReadyH.cons rfl (fun K hK => ?_) AllReadyH.nil
        go_simp
        go_wp2_with ((go_at_call 39; refine (KW.out _ _ hS).mono ?_; rintro e w' ⟨rfl, hS⟩))
        refine hK.out _ _ hS (fun _ => ?_)
        clear hK K
        refine wpAnyH_ready (rs := [15]) (by kernel_rfl) (by simp) ?_
        refine AllReadyH.cons rfl (fun K hK => ?_) AllReadyH.nil
        go_simp
        go_wp2_with ((go_at_call 39; refine (KW.out _ _ hS).mono ?_; rintro e w' ⟨rfl, hS⟩))
        refine hK.out _ _ hS (fun _ => ?_)
        clear hK K
        refine wpAnyH_ready (rs := [18]) (by kernel_rfl) (by simp) ?_
        refine AllReadyH.cons rfl (fun K hK => ?_) AllReadyH.nil
        go_simp
        go_wp2_with ((go_at_call 41; refine (KZ.out _ hS).mono ?_; rintro e w' ⟨rfl, hS⟩))
        refine hK.out _ _ hS (fun _ => ?_)
        clear hK K
        refine wpAnyH_ready (rs := [19]) (by kernel_rfl) (by simp) ?_
        refine AllReadyH.cons rfl (fun K hK => ?_) AllReadyH.nil
        go_simp
        have hS := hS.trans ((bel_alloc _ (.cells #[.int .i64 0, .int .i64 0, .int .i64 0, .int .i64 0] errT)).mono hS.size)
        refine hK.out _ _ hS (fun _ => ?_)
        clear hK K
        refine wpAnyH_ready (rs := [20]) (by kernel_rfl) (by simp) ?_
        refine AllReadyH.cons rfl (fun K hK => ?_) AllReadyH.nil
        go_simp
        go_wp2_with ((go_at_call 38; refine (report0_any _ _ _ _ 4 4 _ (by omega) (zero4 _)).mono ?_; rintro e w' ⟨rfl, rfl⟩))
        refine hK.out _ _ hS (fun _ => ?_)
        clear hK K
        refine wpAnyH_take (i := 21) (v := ?vRb21) rfl (by kernel_rfl) (by kernel_rfl) (by kernel_rfl) (fun _ _ _ h => h) (Or.inl ⟨by rfl, ?hyRb21⟩) hS ?restRb21
        case hyRb21 =>
          intro w hSw
          first | (go_simp; done) | (go_simp; with_reducible rfl)
        try simp only [Act.put, List.setIfInBounds_toArray, List.set_cons_zero, List.set_cons_succ]
        refine wpAnyH_done (by kernel_rfl) ?_ _
        have x0 := f0 _ hS
        have hm := MM1.out.more hS
        have hB12 : w.heap.size ≠ w.heap.size + 1 := by omega
        have hB13 : w.heap.size ≠ w.heap.size + 1 + 1 := by omega
        go_wp2_with (at_mapUpdate; refine wpList_put rfl _ _ _ 73 rfl strK str_inj Tryd.underlying73 rfl hm (by unfold maxLen; omega) a.code _ rfl (str_key a.code s1) ?_; intro w9 hm9 hg9; refine Hid.out ?_)
        have hb9 : Below w.heap.size w w9 := (hb5.trans (Below.mono hS hb5.size)).grown hg9 (Nat.le_trans hb5.size hS.size) (fun k hk => by cases hk; exact Nat.le_refl _)
        have HX : Hid (MapS w9 w.heap.size (n1 + 1) (gC (l.take (k + 1))) ∧ MapS w9 (w.heap.size + 1) n2 (gL (l.take (k + 1))) ∧ MapS w9 (w.heap.size + 1 + 1) 0 (fun _ => none) ∧ Below w.heap.size w w9) := Lib.hid ⟨by rw [HT.out, ← gC_put]; exact hm9, (MM2.out.more hS).grown hg9 (fun e => hB12 (Option.some.inj e).symm), (MM3.out.more hS).grown hg9 (fun e => hB13 (Option.some.inj e).symm), hb9⟩
        clear hm hm9
        refine Lib.hid ?_
        go_wp2
        go_roundw
        case rel => exact ⟨k + 1, n1 + 1, n2, rfl, by omega, by go_num, by omega, by omega, HX⟩
        case measure => simp [intOf]; omega
    · go_wp2
      go_ret
      exact ⟨rfl, HH.out.2.2.2⟩

end Go.Proofs.YtfdbfmhgpegchaaDoor
