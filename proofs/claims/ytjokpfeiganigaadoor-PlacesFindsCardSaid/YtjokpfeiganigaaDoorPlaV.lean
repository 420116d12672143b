/- Plain bound of distances; walk of Way. -/
import Derived.Test.YtjokpfeiganigaaDoorPlaU
namespace Go.Proofs.YtjokpfeiganigaaDoor
open Go.RowKit Go.Shelf
set_option linter.unusedSimpArgs false
set_option linter.unusedVariables false

theorem rel_ex {E : List Edg} {a : ByteArray} (hE : E.length ≤ 120) (hw : ∀ b c w, (b, c, w) ∈ E → w ≤ 20000) : ∀ (k : Nat) (l : List Stp), meas l ≤ k → Rel E a l → capL l →
    ∃ l', Rel E a l' ∧ capL l' ∧ ∀ b c w n, (b, c, w) ∈ E → (b, n) ∈ l' → ∃ m, (c, m) ∈ l' ∧ m ≤ n + w := by
  intro k
  induction k with
  | zero =>
    intro l hk I hc
    have h1 := I.len
    have : 0 < (1000 - l.length) * 100000000 := Nat.mul_pos (by omega) (by omega)
    unfold meas at hk
    omega
  | succ k ih =>
    intro l hk I hc
    by_cases hx : ∀ b c w n, (b, c, w) ∈ E → (b, n) ∈ l → ∃ m, (c, m) ∈ l ∧ m ≤ n + w
    · exact ⟨l, I, hc, hx⟩
    · have : ∃ b c w n, (b, c, w) ∈ E ∧ (b, n) ∈ l ∧ ¬ ∃ m, (c, m) ∈ l ∧ m ≤ n + w := by
        apply Classical.byContradiction
        intro hno
        exact hx fun b c w n h1 h2 => Classical.byContradiction fun h3 => hno ⟨b, c, w, n, h1, h2, h3⟩
      obtain ⟨b, c, w, n, he, hb, hno⟩ := this
      have hnew : newL l c (n + w) = true := by
        cases h : newL l c (n + w) with
        | true => rfl
        | false => exact absurd (putL_has l c _ h) hno
      have h1 := I.len
      have h2 := hc b n hb
      have h3 := hw b c w he
      have := meas_put hnew (by omega) (by omega)
      exact ih (putL l c (n + w)) (by omega) (I.put hb he) (hc.put hb h3)
theorem disO_le {ds : List Dst} (hl : ds.length ≤ 60) {a b : ByteArray} {n : Nat} (h : disO (edgs ds) a b = some n) : n ≤ 2420000 := by
  have hE : (edgs ds).length ≤ 120 := Nat.le_trans (edgs_len ds) (by omega)
  have h0 : Rel (edgs ds) a [(a, 0)] := ⟨fun c m hm => by simp at hm; obtain ⟨rfl, rfl⟩ := hm; exact .here, by simp, by simp⟩
  have c0 : capL [(a, 0)] := fun c m hm => by simp at hm; obtain ⟨rfl, rfl⟩ := hm; simp
  obtain ⟨l', I, hc, hcl⟩ := rel_ex hE (fun b c w hm => edgs_le hm) _ _ (Nat.le_refl _) h0 c0
  rw [I.done hcl] at h
  have := hc _ _ ((atL_mem I.one).1 h)
  have := I.len
  omega
theorem miles_bd {p : PV} (hp : OkP p) (a b : ByteArray) : 0 ≤ (milesP p.l (edgs p.ds) a b).1 ∧ (milesP p.l (edgs p.ds) a b).1 ≤ 2420000 ∧ 0 ≤ (milesP p.l (edgs p.ds) a b).2 ∧ (milesP p.l (edgs p.ds) a b).2 ≤ 14 ∧ ((milesP p.l (edgs p.ds) a b).2 ≠ 0 → (milesP p.l (edgs p.ds) a b).1 = 0) := by
  unfold milesP
  split
  · simp
  · cases h : disO (edgs p.ds) (cityP p.l a) (cityP p.l b) with
    | none => simp
    | some n => have := disO_le hp.ld h; simp; omega

/-- sums along a list -/
def wayL (f : ByteArray → ByteArray → Int × Int) (ss : List ByteArray) : Nat → Nat → Int → Int × Int
  | 0, _, s => (s, 0)
  | n + 1, i, s => if (f (ss.getD i noB) (ss.getD (i + 1) noB)).2 = 0 then wayL f ss n (i + 1) (s + (f (ss.getD i noB) (ss.getD (i + 1) noB)).1) else (0, (f (ss.getD i noB) (ss.getD (i + 1) noB)).2)
def wayP (f : ByteArray → ByteArray → Int × Int) (ss : List ByteArray) : Int × Int := wayL f ss (ss.length - 1) 0 0
theorem wayL_step (f : ByteArray → ByteArray → Int × Int) (ss : List ByteArray) (i : Nat) (s : Int) (h : i + 1 < ss.length) :
    wayL f ss (ss.length - 1 - i) i s = if (f (ss.getD i noB) (ss.getD (i + 1) noB)).2 = 0 then wayL f ss (ss.length - 1 - (i + 1)) (i + 1) (s + (f (ss.getD i noB) (ss.getD (i + 1) noB)).1) else (0, (f (ss.getD i noB) (ss.getD (i + 1) noB)).2) := by
  rw [show ss.length - 1 - i = (ss.length - 1 - (i + 1)) + 1 by omega]
  rfl

set_option maxRecDepth 100000 in
set_option maxHeartbeats 4000000 in
theorem way_any (p : PV) (v : Value) (ss : List ByteArray) (w : World) (hp : OkP p) (hL : PlL w p) (hv : StrL w v ss) (hs : ∀ s ∈ ss, s.size ≤ maxLen) (h12 : ss.length ≤ 12) :
    Calls Tryd.prog 24 #[encP p, v] w fun e w' => e = .returned (.tuple #[.int .i64 (wayP (milesP p.l (edgs p.ds)) ss).1, .int .i64 (wayP (milesP p.l (edgs p.ds)) ss).2]) ∧ Below w.heap.size w w' := by
  obtain ⟨Av, cv, rfl, hcells⟩ := hv
  have hb0 := bel_alloc w (.cells #[.slice p.A p.l.length p.ca, .slice p.D p.ds.length p.cd] placesT)
  have p0 := cells_new w #[.slice p.A p.l.length p.ca, .slice p.D p.ds.length p.cd] placesT 0
  have p1 := cells_new w #[.slice p.A p.l.length p.ca, .slice p.D p.ds.length p.cd] placesT 1
  simp only [List.getElem?_toArray, List.getElem?_cons_zero, List.getElem?_cons_succ] at p0 p1
  have hL5 := hL.more hb0
  have hW0 : Hid (wayP (milesP p.l (edgs p.ds)) ss = wayL (milesP p.l (edgs p.ds)) ss (ss.length - 1 - 0) 0 0) := Lib.hid rfl
  have BD := Lib.hid (fun a b => miles_bd hp a b)
  have KM0 := Lib.hid (fun a b (ha : a.size ≤ maxLen) (hb : b.size ≤ maxLen) W (h : PlL W p) => (miles_any p a b W hp h ha hb).mono (R' := fun e w' => e = .returned (.tuple #[.int .i64 (milesP p.l (edgs p.ds) a b).1, .int .i64 (milesP p.l (edgs p.ds) a b).2]) ∧ Below W.heap.size W w') (by rintro e w' ⟨rfl, hb, _⟩; exact ⟨rfl, hb⟩))
  have hvw : Hid (∀ i, i < ss.length → ∃ b o, Av = some ⟨b, o, none⟩ ∧ b < w.heap.size ∧ w.cell? ⟨b, o + i, none⟩ = some (.string (ss.getD i noB)) ∧ (ss.getD i noB).size ≤ maxLen) := Lib.hid (fun i hi => by
    have e : ss.getD i noB = ss[i] := by rw [List.getD_eq_getElem?_getD, List.getElem?_eq_getElem hi]; rfl
    rw [e]
    rcases hcells with h | ⟨b, o, h1, h2, h3⟩
    · rw [h] at hi; simp at hi
    · exact ⟨b, o, h1, h2, h3 i hi, hs _ (List.getElem_mem hi)⟩)
  clear hcells hL hp hs
  generalize milesP p.l (edgs p.ds) = fm at *
  go_enter Tryd.func24, Tryd.ntmps24
  go_wp2
  generalize hw5 : w.alloc (.cells #[.slice p.A p.l.length p.ca, .slice p.D p.ds.length p.cd] placesT) = w5 at *
  clear hw5
  go_loopw [6, 7] (fun s6 vi wr => ∃ (k : Nat) (s : Int), s6 = .int .i64 s ∧ vi = .int .i64 ((k : Int) + 1) ∧ k ≤ ss.length ∧ Hid (wayP fm ss = wayL fm ss (ss.length - 1 - k) k s) ∧ 0 ≤ s ∧ s ≤ 2420000 * k ∧ SW w5 wr) (fun _ vi _ => ss.length + 1 - (intOf vi).toNat)
  case atStart => exact ⟨0, 0, rfl, rfl, Nat.zero_le _, hW0, by omega, by omega, Below.refl _ _⟩
  case round =>
    obtain ⟨k, s, rfl, rfl, hk, HK, hs0, hs1, hS⟩ := hrel
    by_cases hlt : k + 1 < ss.length
    · obtain ⟨b1, o1, hA1, hl1, c1, z1⟩ := hvw.out k (by omega)
      obtain ⟨b2, o2, hA2, hl2, c2, z2⟩ := hvw.out (k + 1) hlt
      rw [hA1] at hA2
      cases hA2
      subst hA1
      have HST := Lib.hid (HK.out.trans (wayL_step fm ss k s hlt))
      have bd := BD.out (ss.getD k noB) (ss.getD (k + 1) noB)
      have hLr : PlL wr p := hL5.more hS
      have KMk : Hid (∀ W, SW wr W → Calls Tryd.prog 22 #[encP p, .string (ss.getD k noB), .string (ss.getD (k + 1) noB)] W fun e w' => e = .returned (.tuple #[.int .i64 (fm (ss.getD k noB) (ss.getD (k + 1) noB)).1, .int .i64 (fm (ss.getD k noB) (ss.getD (k + 1) noB)).2]) ∧ SW wr w') :=
        Lib.hid (SW.call (w5 := wr) (fun W h => KM0.out _ _ z1 z2 W (hLr.more h)))
      clear hLr
      generalize ss.getD k noB = sa at *
      generalize ss.getD (k + 1) noB = sb at *
      generalize hfa : (fm sa sb).1 = fa at *
      generalize hfb : (fm sa sb).2 = fb at *
      have i1 : (k : Int) + 1 < (ss.length : Int) := by omega
      have i2 : (k : Int) < (ss.length : Int) := by omega
      have q1 := SW.cell (bel_cell hS (bel_cell hb0 c1))
      have q2 := SW.cell (bel_cell hS (bel_cell hb0 c2))
      have q3 := SW.cell (bel_get p0 _ hS)
      have q4 := SW.cell (bel_get p1 _ hS)
      by_cases h0 : fb = 0
      · subst h0
        have HN : Hid (wayP fm ss = wayL fm ss (ss.length - 1 - (k + 1)) (k + 1) (s + fa)) := Lib.hid (by rw [HST.out, if_pos rfl])
        have hfs : s + fa ≤ 2420000 * ((k + 1 : Nat) : Int) ∧ 0 ≤ s + fa := by omega
        have HB := Lib.hid hfs
        clear hfa hfb HST c1 c2 z1 z2 hfs
        go_wp2
        have hNe : Nonempty (Wd (SW wr)) := ⟨⟨_, SW.drew _⟩⟩
        refine quietS (S := SW wr) (by kernel_rfl) (by kernel_rfl) (SW.drew _) ?_
        repeat (first | go_big_quiet_skip | (go_big_quiet_want; go_big_quiet_op; first | go_big_quiet_on | go_big_quiet_call (((go_at_call 22; (with_reducible exact quiet_S (KMk.out _ (Wd.ok _))))))))
        refine wpQuiet_nil ?_
        rintro W ⟨⟨_, hW⟩, rfl⟩
        go_wp2
        go_roundw
        case rel => exact ⟨k + 1, s + fa, by go_num, by rw [Int.natCast_add]; rfl, by omega, HN, HB.out.2, HB.out.1, Below.trans hS (Below.mono hW hS.size)⟩
        case measure => simp [intOf]; omega
      · have HN : Hid (wayP fm ss = (0, fb)) := Lib.hid (by rw [HST.out, if_neg h0])
        have e1 : (fb != 0) = true := by simp [h0]
        clear hfa hfb HST c1 c2 z1 z2
        go_wp2
        have hNe : Nonempty (Wd (SW wr)) := ⟨⟨_, SW.drew _⟩⟩
        refine quietS (S := SW wr) (by kernel_rfl) (by kernel_rfl) (SW.drew _) ?_
        repeat (first | go_big_quiet_skip | (go_big_quiet_want; go_big_quiet_op; first | go_big_quiet_on | go_big_quiet_call (((go_at_call 22; (with_reducible exact quiet_S (KMk.out _ (Wd.ok _))))))))
        refine wpQuiet_nil ?_
        rintro W ⟨⟨_, hW⟩, rfl⟩
        go_wp2
        exact bodyPost_ret (results_tmp2 rfl _ _ _) rfl ⟨by rw [HN.out]; rfl, hb0.trans ((Below.trans hS (Below.mono hW hS.size)).mono hb0.size)⟩
    · have e : ss.length - 1 - k = 0 := by omega
      have HR := Lib.hid (HK.out.trans (by rw [e]; rfl) : wayP fm ss = (s, 0))
      have i1 : ¬ (k : Int) + 1 < (ss.length : Int) := by omega
      go_wp2
      exact bodyPost_ret (results_tmp2 rfl _ _ _) rfl ⟨by rw [HR.out]; rfl, hb0.trans (Below.mono hS hb0.size)⟩

end Go.Proofs.YtjokpfeiganigaaDoor
