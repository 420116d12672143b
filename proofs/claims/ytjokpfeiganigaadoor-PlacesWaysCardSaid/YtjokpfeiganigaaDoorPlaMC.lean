/- Walk of the reference's Way; a way is at least as long as the shortest one between its ends. -/
import Derived.Test.YtjokpfeiganigaaDoorPlaMB
import Derived.Test.YtjokpfeiganigaaDoorPlaV
namespace Go.Proofs.YtjokpfeiganigaaDoor
open Go.RowKit Go.Shelf
set_option linter.unusedSimpArgs false
set_option linter.unusedVariables false

theorem way_ends {l : List Air} {E : List Edg} (hk : ∀ a b, milesP l E a b = (0, 14) ∨ milesP l E a b = (0, 7) ∨ ∃ n : Nat, milesP l E a b = ((n : Int), 0) ∧ cityP l a ≠ noB ∧ cityP l b ≠ noB ∧ disO E (cityP l a) (cityP l b) = some n) (ss : List ByteArray) :
    ∀ (n i : Nat) (s r : Int), wayL (milesP l E) ss (n + 1) i s = (r, 0) → ∃ m : Nat, milesP l E (ss.getD i noB) (ss.getD (i + n + 1) noB) = ((m : Int), 0) ∧ s + m ≤ r := by
  intro n
  induction n with
  | zero =>
    intro i s r h
    simp only [wayL] at h
    rcases hk (ss.getD i noB) (ss.getD (i + 1) noB) with h1 | h1 | ⟨m, h1, _⟩
    · rw [h1] at h; simp at h
    · rw [h1] at h; simp at h
    · rw [h1] at h
      simp only [if_true, Prod.mk.injEq, and_true] at h
      exact ⟨m, h1, by omega⟩
  | succ n ih =>
    intro i s r h
    rw [wayL] at h
    rcases hk (ss.getD i noB) (ss.getD (i + 1) noB) with h1 | h1 | ⟨m, h1, q1, q2, q3⟩
    · rw [h1] at h; simp at h
    · rw [h1] at h; simp at h
    · rw [h1] at h
      simp only [if_true] at h
      obtain ⟨m2, h2, h3⟩ := ih (i + 1) (s + m) r h
      rw [show i + 1 + n + 1 = i + (n + 1) + 1 by omega] at h2
      rcases hk (ss.getD (i + 1) noB) (ss.getD (i + (n + 1) + 1) noB) with h4 | h4 | ⟨m3, h4, p1, p2, p3⟩
      · rw [h2] at h4; simp at h4
      · rw [h2] at h4; simp at h4
      · rw [h2] at h4
        simp only [Prod.mk.injEq, and_true] at h4
        obtain ⟨k, e1, e2⟩ := disO_tri q3 p3
        refine ⟨k, ?_, by omega⟩
        unfold milesP
        rw [if_neg (fun h => h.elim q1 p2), e1]

set_option maxRecDepth 100000 in
set_option maxHeartbeats 4000000 in
theorem rway_any (p : PV) (v : Value) (ss : List ByteArray) (w : World) (hp : OkP p) (hL : PlL w p) (hv : StrL w v ss) (hs : ∀ s ∈ ss, s.size ≤ maxLen) (h12 : ss.length ≤ 12) :
    Calls Tryd.prog 25 #[encP p, v] w fun e w' => e = .returned (.tuple #[.int .i64 (wayP (milesP p.l (edgs p.ds)) ss).1, .int .i64 (wayP (milesP p.l (edgs p.ds)) ss).2]) ∧ Below w.heap.size w w' := by
  obtain ⟨Av, cv, rfl, hcells⟩ := hv
  have hb0 := bel_alloc w (.cells #[.slice p.A p.l.length p.ca, .slice p.D p.ds.length p.cd] placesT)
  have p0 := cells_new w #[.slice p.A p.l.length p.ca, .slice p.D p.ds.length p.cd] placesT 0
  have p1 := cells_new w #[.slice p.A p.l.length p.ca, .slice p.D p.ds.length p.cd] placesT 1
  simp only [List.getElem?_toArray, List.getElem?_cons_zero, List.getElem?_cons_succ] at p0 p1
  have hL5 := hL.more hb0
  have hW0 : Hid (wayP (milesP p.l (edgs p.ds)) ss = wayL (milesP p.l (edgs p.ds)) ss (ss.length - 1 - 0) 0 0) := Lib.hid rfl
  have BD := Lib.hid (fun a b => miles_bd hp a b)
  have KM0 := Lib.hid (fun a b (ha : a.size ≤ maxLen) (hb : b.size ≤ maxLen) W (h : PlL W p) => rmiles_any p a b W hp h)
  have hvw : Hid (∀ i, i < ss.length → ∃ b o, Av = some ⟨b, o, none⟩ ∧ b < w.heap.size ∧ w.cell? ⟨b, o + i, none⟩ = some (.string (ss.getD i noB)) ∧ (ss.getD i noB).size ≤ maxLen) := Lib.hid (fun i hi => by
    have e : ss.getD i noB = ss[i] := by rw [List.getD_eq_getElem?_getD, List.getElem?_eq_getElem hi]; rfl
    rw [e]
    rcases hcells with h | ⟨b, o, h1, h2, h3⟩
    · rw [h] at hi; simp at hi
    · exact ⟨b, o, h1, h2, h3 i hi, hs _ (List.getElem_mem hi)⟩)
  clear hcells hL hp hs
  generalize milesP p.l (edgs p.ds) = fm at *
  go_enter Tryd.func25, Tryd.ntmps25
  go_wp2
  generalize hw5 : w.alloc (.cells #[.slice p.A p.l.length p.ca, .slice p.D p.ds.length p.cd] placesT) = w5 at *
  clear hw5
  go_loopw [6, 7] (fun s6 vi wr => ∃ (k : Nat) (s : Int), s6 = .int .i64 s ∧ vi = .int .i64 (k : Int) ∧ k ≤ ss.length ∧ Hid (wayP fm ss = wayL fm ss (ss.length - 1 - k) k s) ∧ 0 ≤ s ∧ s ≤ 2420000 * k ∧ SW w5 wr) (fun _ vi _ => ss.length + 1 - (intOf vi).toNat)
  case atStart => exact ⟨0, 0, rfl, rfl, Nat.zero_le _, hW0, by omega, by omega, Below.refl _ _⟩
  case round =>
    obtain ⟨k, s, rfl, rfl, hk, HK, hs0, hs1, hS⟩ := hrel
    by_cases hlt : k + 1 < ss.length
    · obtain ⟨b1, o1, hA1, hl1, c1, z1⟩ := hvw.out k (by omega)
      obtain ⟨b2, o2, hA2, hl2, c2, z2⟩ := hvw.out (k + 1) hlt
      rw [hA1] at hA2
      cases hA2
      subst hA1
      have HST := Lib.hid (HK.out.trans (wayL_step fm ss k s hlt))
      have bd := BD.out (ss.getD k noB) (ss.getD (k + 1) noB)
      have hLr : PlL wr p := hL5.more hS
      have KMk : Hid (∀ W, SW wr W → Calls Tryd.prog 23 #[encP p, .string (ss.getD k noB), .string (ss.getD (k + 1) noB)] W fun e w' => e = .returned (.tuple #[.int .i64 (fm (ss.getD k noB) (ss.getD (k + 1) noB)).1, .int .i64 (fm (ss.getD k noB) (ss.getD (k + 1) noB)).2]) ∧ SW wr w') :=
        Lib.hid (SW.call (w5 := wr) (fun W h => KM0.out _ _ z1 z2 W (hLr.more h)))
      clear hLr
      generalize ss.getD k noB = sa at *
      generalize ss.getD (k + 1) noB = sb at *
      generalize hfa : (fm sa sb).1 = fa at *
      generalize hfb : (fm sa sb).2 = fb at *
      have i1 : (k : Int) + 1 < (ss.length : Int) := by omega
      have i2 : (k : Int) < (ss.length : Int) := by omega
      have q1 := SW.cell (bel_cell hS (bel_cell hb0 c1))
      have q2 := SW.cell (bel_cell hS (bel_cell hb0 c2))
      have q3 := SW.cell (bel_get p0 _ hS)
      have q4 := SW.cell (bel_get p1 _ hS)
      by_cases h0 : fb = 0
      · subst h0
        have HN : Hid (wayP fm ss = wayL fm ss (ss.length - 1 - (k + 1)) (k + 1) (s + fa)) := Lib.hid (by rw [HST.out, if_pos rfl])
        have hfs : s + fa ≤ 2420000 * ((k + 1 : Nat) : Int) ∧ 0 ≤ s + fa := by omega
        have HB := Lib.hid hfs
        clear hfa hfb HST c1 c2 z1 z2 hfs
        go_wp2
        have hNe : Nonempty (Wd (SW wr)) := ⟨⟨_, SW.drew _⟩⟩
        refine quietS (S := SW wr) (by kernel_rfl) (by kernel_rfl) (SW.drew _) ?_
        repeat (first | go_big_quiet_skip | (go_big_quiet_want; go_big_quiet_op; first | go_big_quiet_on | go_big_quiet_call (((go_at_call 23; (with_reducible exact quiet_S (KMk.out _ (Wd.ok _))))))))
        refine wpQuiet_nil ?_
        rintro W ⟨⟨_, hW⟩, rfl⟩
        go_wp2
        go_roundw
        case rel => exact ⟨k + 1, s + fa, by go_num, by rw [Int.natCast_add]; rfl, by omega, HN, HB.out.2, HB.out.1, Below.trans hS (Below.mono hW hS.size)⟩
        case measure => simp [intOf]; omega
      · have HN : Hid (wayP fm ss = (0, fb)) := Lib.hid (by rw [HST.out, if_neg h0])
        have e1 : (fb != 0) = true := by simp [h0]
        clear hfa hfb HST c1 c2 z1 z2
        go_wp2
        have hNe : Nonempty (Wd (SW wr)) := ⟨⟨_, SW.drew _⟩⟩
        refine quietS (S := SW wr) (by kernel_rfl) (by kernel_rfl) (SW.drew _) ?_
        repeat (first | go_big_quiet_skip | (go_big_quiet_want; go_big_quiet_op; first | go_big_quiet_on | go_big_quiet_call (((go_at_call 23; (with_reducible exact quiet_S (KMk.out _ (Wd.ok _))))))))
        refine wpQuiet_nil ?_
        rintro W ⟨⟨_, hW⟩, rfl⟩
        go_wp2
        exact bodyPost_ret (results_tmp2 rfl _ _ _) rfl ⟨by rw [HN.out]; rfl, hb0.trans ((Below.trans hS (Below.mono hW hS.size)).mono hb0.size)⟩
    · have e : ss.length - 1 - k = 0 := by omega
      have HR := Lib.hid (HK.out.trans (by rw [e]; rfl) : wayP fm ss = (s, 0))
      have i1 : ¬ (k : Int) + 1 < (ss.length : Int) := by omega
      go_wp2
      exact bodyPost_ret (results_tmp2 rfl _ _ _) rfl ⟨by rw [HR.out]; rfl, hb0.trans (Below.mono hS hb0.size)⟩

end Go.Proofs.YtjokpfeiganigaaDoor
