/- Seats, the program's and the reference's. -/
import Derived.Test.YtjogjlfgfohihaaBidE
import Derived.Lib.Slices
namespace Go.Proofs.Ytjogjlfgfohihaa
open Go.RowKit Go.Shelf
set_option linter.unusedSimpArgs false
set_option linter.unusedVariables false

/-- a curve, and where it lies -/
structure Cv where
  A : Option Addr
  c : Nat
  l : List Int
abbrev encV (x : Cv) : List Value := [.slice x.A x.l.length x.c]
def CvsL (w : World) (v : Value) (L : List Cv) : Prop := RowL 1 encV w v L ∧ ∀ x ∈ L, IntR w (.slice x.A x.l.length x.c) x.l
theorem CvsL.more {w w' : World} {v : Value} {L : List Cv} (h : CvsL w v L) (hb : Below w.heap.size w w') : CvsL w' v L := ⟨h.1.more hb, fun x hx => (h.2 x hx).more hb⟩
abbrev pls (L : List Cv) : List (List Int) := L.map (·.l)
theorem pls_at {L : List Cv} {k : Nat} {x : Cv} (h : L[k]? = some x) : (pls L)[k]? = some x.l := by rw [List.getElem?_map, h]; rfl
/-- the curves are right, the seats ints -/
structure OkCs (L : List Cv) (lf : List Int) : Prop where
  right : ∀ x ∈ L, RgtP x.l
  few : L.length ≤ 1000
  in' : ∀ x ∈ lf, -9223372036854775808 ≤ x ∧ x ≤ 9223372036854775807
theorem OkCs.pls {L : List Cv} {lf : List Int} (h : OkCs L lf) : ∀ a ∈ pls L, RgtP a := fun a ha => by
  obtain ⟨x, hx, rfl⟩ := List.mem_map.1 ha
  exact h.right x hx
theorem OkCs.sum {L : List Cv} {lf : List Int} (h : OkCs L lf) (i : Nat) (n : Int) : -1000 ≤ alF ((Go.Proofs.Ytjogjlfgfohihaa.pls L).take i) (lf.take i) n ∧ alF ((Go.Proofs.Ytjogjlfgfohihaa.pls L).take i) (lf.take i) n ≤ 1099511627776000 := by
  have h1 := alF_in (cv := (Go.Proofs.Ytjogjlfgfohihaa.pls L).take i) (fun a ha => h.pls a (List.mem_of_mem_take ha)) (lf.take i) n
  have h2 : ((Go.Proofs.Ytjogjlfgfohihaa.pls L).take i).length ≤ 1000 := by have := h.few; simp; omega
  omega
set_option maxRecDepth 100000 in
set_option maxHeartbeats 4000000 in
theorem along_any (A : Option Addr) (c : Nat) (L : List Cv) (B : Option Addr) (e : Nat) (lf : List Int) (n : Nat) (w : World) (hL : CvsL w (.slice A L.length c) L) (hM : IntR w (.slice B lf.length e) lf) (hok : OkCs L lf) (hlen : L.length = lf.length) (hn : ∀ x ∈ lf, (n : Int) < x) :
    Calls Try.prog 24 #[.slice A L.length c, .slice B lf.length e, .int .i64 (n : Int)] w fun e w' => e = .returned (.int .i64 (alF (pls L) lf n)) ∧ Below w.heap.size w w' := by
  have HL := Lib.hid hL
  have HM := Lib.hid hM
  have HO := Lib.hid hok
  have HN := Lib.hid hn
  have hfew := hok.few
  have HEN := Lib.hid hlen
  rw [← hlen] at HM ⊢
  clear hL hM hok hn hlen
  go_enter Try.func24, Try.ntmps24
  go_wp2
  go_loopw [7, 12] (fun s vi wr => ∃ k : Nat, k ≤ L.length ∧ vi = .int .i64 k ∧ s = .int .i64 (alF ((pls L).take k) (lf.take k) n) ∧ Hid (Below w.heap.size w wr)) (fun _ vi _ => L.length - (intOf vi).toNat)
  case atStart => exact ⟨0, Nat.zero_le _, rfl, rfl, Lib.hid (Below.refl _ _)⟩
  case round =>
    obtain ⟨k, hk, rfl, rfl, HB⟩ := hrel
    by_cases hlt : k < L.length
    · obtain ⟨x, hx⟩ : ∃ x, L[k]? = some x := ⟨_, List.getElem?_eq_getElem hlt⟩
      obtain ⟨y, hy⟩ : ∃ y, lf[k]? = some y := ⟨_, List.getElem?_eq_getElem (by rw [← HEN.out]; exact hlt)⟩
      obtain ⟨b, off, e1, hgl, ha⟩ := row_get (HL.out.more HB.out).1 hx
      cases e1
      obtain ⟨b', off', e1', hgl', ha'⟩ := row_get (HM.out.more HB.out) hy
      cases e1'
      have i2 : (k : Int) < (L.length : Int) := by omega
      have z0 := ha 0 _ rfl
      have z1 := ha' 0 _ rfl
      rw [Nat.mul_one, Nat.add_zero] at z0 z1
      have hyn := HN.out y (List.mem_of_getElem? hy)
      have hyi := HO.out.in' y (List.mem_of_getElem? hy)
      have hsu := HO.out.sum k n
      have hpi := prF_in (HO.out.right x (List.mem_of_getElem? hx)) (y - n)
      have HT := Lib.hid (alF_take (pls_at hx) hy (n : Int))
      have HBX : Hid (∀ W, SW wr W → Calls Try.prog 13 #[.slice x.A x.l.length x.c, .int .i64 (y - n)] W fun e w' => e = .returned (.int .i64 (prF x.l (y - n))) ∧ w' = W) := Lib.hid (fun W hW => price_any x.A x.c x.l (y - n) W (by have := (HO.out.right x (List.mem_of_getElem? hx)).1; omega) (((HL.out.more HB.out).2 x (List.mem_of_getElem? hx)).more hW))
      clear ha hgl ha' hgl' hx hy
      generalize alF ((pls L).take k) (lf.take k) n = u at *
      generalize prF x.l (y - n) = pr at *
      go_wp2_with (first | (go_at_call 13; refine (HBX.out _ (Below.refl _ _)).mono ?_; rintro e w' ⟨rfl, rfl⟩) | (go_at_call 13; refine (HBX.out _ (SW.drew _)).mono ?_; rintro e w' ⟨rfl, rfl⟩))
      go_roundw
      case rel => exact ⟨k + 1, by omega, by go_num, by rw [HT.out], HB⟩
      case measure => simp [intOf]; omega
    · have HR : Hid (alF ((pls L).take k) (lf.take k) n = alF (pls L) lf n) := Lib.hid (by
        rw [List.take_of_length_le (by simp; omega), List.take_of_length_le (by have := HEN.out; omega)])
      have i2 : ¬ (k : Int) < (L.length : Int) := by omega
      go_wp2
      go_ret
      exact ⟨ret_int HR.out, HB.out⟩
theorem minOf_mem : ∀ (l : List Int) (a : Int), l.foldl min a = a ∨ l.foldl min a ∈ l
  | [], a => .inl rfl
  | x :: r, a => by
    rw [List.foldl_cons]
    rcases minOf_mem r (min a x) with h | h
    · rw [h]
      by_cases hx : a ≤ x
      · left; omega
      · right
        have : min a x = x := by omega
        rw [this]; exact List.mem_cons_self ..
    · exact .inr (List.mem_cons_of_mem _ h)
theorem minOf_le : ∀ (l : List Int) (a : Int), l.foldl min a ≤ a ∧ ∀ x ∈ l, l.foldl min a ≤ x
  | [], a => ⟨Int.le_refl _, fun x hx => by cases hx⟩
  | y :: r, a => by
    rw [List.foldl_cons]
    obtain ⟨h1, h2⟩ := minOf_le r (min a y)
    refine ⟨by omega, fun x hx => ?_⟩
    rcases List.mem_cons.1 hx with rfl | hx
    · omega
    · exact h2 x hx
theorem minOf_ok {l : List Int} (hne : l ≠ []) : Lib.minOf l ∈ l ∧ ∀ x ∈ l, Lib.minOf l ≤ x := by
  cases l with
  | nil => exact absurd rfl hne
  | cons a r =>
    unfold Lib.minOf
    refine ⟨?_, (minOf_le (a :: r) _).2⟩
    rcases minOf_mem (a :: r) ((a :: r).headD 0) with h | h
    · rw [h]; exact List.mem_cons_self ..
    · exact h
theorem min_any (B : Option Addr) (e : Nat) (lf : List Int) (w : World) (hne : lf ≠ []) (hl : lf.length ≤ 1000000) (hM : IntR w (.slice B lf.length e) lf) :
    Calls Try.prog 23 #[.slice B lf.length e] w fun e w' => e = .returned (.int .i64 (Lib.minOf lf)) ∧ w' = w := by
  have hp : 0 < lf.length := List.length_pos_iff.2 hne
  obtain ⟨b, off, e1, hgl, _⟩ := row_get hM (List.getElem?_eq_getElem hp)
  cases e1
  have h := Try.slices_Min_int b off lf.length e lf w hp (Nat.le_refl _) (by omega) (fun j hj => by
    obtain ⟨b', off', e2, _, ha⟩ := row_get hM (List.getElem?_eq_getElem hj)
    cases e2
    have z := ha 0 _ rfl
    rw [Nat.mul_one, Nat.add_zero] at z
    rw [z, List.getD_eq_getElem?_getD, List.getElem?_eq_getElem hj]
    rfl)
  rw [List.take_length] at h
  exact h
theorem moF_min (most : Int) : (moF most : Int) = if min most 999 < 0 then 0 else min most 999 := by
  unfold moF
  split <;> split <;> omega
/-- n seats are accepted, at the least -/
structure SeatsK (cv : List (List Int)) (lf : List Int) (value most : Int) (n : Nat) : Prop where
  le : n ≤ moF most
  gd : ∀ k, k < n → GdP cv lf value k
theorem SeatsK.zero (cv : List (List Int)) (lf : List Int) (value most : Int) : SeatsK cv lf value most 0 := ⟨Nat.zero_le _, fun k h => absurd h (Nat.not_lt_zero _)⟩
theorem SeatsK.next {cv : List (List Int)} {lf : List Int} {value most : Int} {n : Nat} (h : SeatsK cv lf value most n) (h1 : (n : Int) < most) (h2 : (n : Int) < 999) (hg : GdP cv lf value n) : SeatsK cv lf value most (n + 1) :=
  ⟨by have := moF_min most; split at this <;> omega, fun k hk => by
    by_cases e : k = n
    · subst e; exact hg
    · exact h.gd k (by omega)⟩
theorem SeatsK.stop {cv : List (List Int)} {lf : List Int} {value most : Int} {n : Nat} (h : SeatsK cv lf value most n) (hl : cv.length = lf.length) (h0 : 0 < lf.length) (hs : (n : Int) = moF most ∨ ¬ GdP cv lf value n) : SeatsR cv lf value most n := by
  unfold SeatsR
  rw [if_neg (by omega)]
  exact ⟨h.le, h.gd, hs.imp (by omega) id⟩
set_option maxRecDepth 100000 in
set_option maxHeartbeats 4000000 in
theorem seats_any (A : Option Addr) (c : Nat) (L : List Cv) (B : Option Addr) (e : Nat) (lf : List Int) (value most : Int) (w : World) (hL : CvsL w (.slice A L.length c) L) (hM : IntR w (.slice B lf.length e) lf) (hok : OkCs L lf) (hl : lf.length < 9223372036854775808) :
    Calls Try.prog 19 #[.slice A L.length c, .slice B lf.length e, .int .i64 value, .int .i64 most] w fun e w' => ∃ r : Nat, e = .returned (.int .i64 (r : Int)) ∧ SeatsR (pls L) lf value most r ∧ Below w.heap.size w w' := by
  have hfew := hok.few
  by_cases h0 : L.length = 0
  · have HR : Hid (SeatsR (pls L) lf value most 0) := Lib.hid (by unfold SeatsR; rw [if_pos (by simp only [List.length_map]; omega)])
    have g0 : ((L.length : Int) == 0) = true := by simp [h0]
    clear hL hM hok
    go_enter Try.func19, Try.ntmps19
    go_wp2
    go_ret
    exact ⟨0, rfl, HR.out, Below.refl _ _⟩
  have g0 : ((L.length : Int) == 0) = false := by rw [beq_eq_false_iff_ne]; omega
  by_cases h1 : L.length = lf.length
  · have hne : lf ≠ [] := fun h => by rw [h] at h1; exact h0 h1
    obtain ⟨m1, m2⟩ := minOf_ok hne
    have KM := Lib.hid (min_any B e lf w hne (by omega) hM)
    have KA : Hid (∀ n : Nat, (∀ x ∈ lf, (n : Int) < x) → ∀ W, Below w.heap.size w W → Calls Try.prog 24 #[.slice A L.length c, .slice B lf.length e, .int .i64 (n : Int)] W fun e w' => e = .returned (.int .i64 (alF (pls L) lf n)) ∧ Below W.heap.size W w') := Lib.hid (fun n hn W hW => along_any A c L B e lf n W (hL.more hW) (hM.more hW) hok h1 hn)
    have HST : Hid (∀ n : Nat, SeatsK (pls L) lf value most n → ((n : Int) = moF most ∨ ¬ GdP (pls L) lf value n) → SeatsR (pls L) lf value most n) := Lib.hid (fun n h hs => h.stop (by simpa using h1) (by omega) hs)
    generalize hmn : Lib.minOf lf = mn at *
    have HM1 := Lib.hid m1
    have HM2 := Lib.hid m2
    have H1 := Lib.hid h1
    have g1 : ((L.length : Int) != (lf.length : Int)) = false := by simp [h1]
    rw [← h1] at KM KA ⊢
    rw [← h1] at g1
    clear hL hM hok hmn m1 m2 h1 hne h0
    obtain ⟨mo, hmo⟩ : ∃ mo, mo = (if mn < if 999 < most then 999 else most then mn else if 999 < most then 999 else most) := ⟨_, rfl⟩
    have HMO : Hid (mo = min (min most 999) mn) := Lib.hid (by rw [hmo]; split <;> split <;> omega)
    go_enter Try.func19, Try.ntmps19
    go_upto_region 4 with (go_at_call 23; refine KM.out.mono ?_; rintro e w1 ⟨rfl, rfl⟩)
    rw [← hmo]
    clear hmo KM
    go_wp2
    go_loopw [9] (fun v9 W => ∃ n : Nat, n ≤ 999 ∧ v9 = .int .i64 n ∧ Hid (SeatsK (pls L) lf value most n) ∧ Hid (Below w1.heap.size w1 W)) (fun v9 _ => 999 - (intOf v9).toNat)
    case atStart => exact ⟨0, Nat.zero_le _, rfl, Lib.hid (SeatsK.zero _ _ _ _), Lib.hid (Below.refl _ _)⟩
    case round =>
      obtain ⟨n, hn, rfl, HK, HB⟩ := hrel
      by_cases hlt : (n : Int) < mo
      · have HLT : Hid ((n : Int) < most ∧ (n : Int) < 999 ∧ (n : Int) < mn) := Lib.hid (by have := HMO.out; omega)
        have HALL : Hid (∀ x ∈ lf, (n : Int) < x) := Lib.hid (fun x hx => by have := HM2.out x hx; have := HLT.out.2.2; omega)
        have KA1 := Lib.hid (KA.out n HALL.out)
        have HG : Hid (GdP (pls L) lf value n ↔ alF (pls L) lf n ≤ value) := Lib.hid ⟨fun h => h.2, fun h => ⟨HALL.out, h⟩⟩
        have g2 : decide ((n : Int) < mo) = true := decide_eq_true hlt
        clear hlt
        generalize alF (pls L) lf n = al at *
        have hn2 : n < 999 := by have := HLT.out.2.1; omega
        by_cases hal : al ≤ value
        · have HN := Lib.hid (HK.out.next HLT.out.1 HLT.out.2.1 (HG.out.2 hal))
          go_wp2_with (go_at_call 24; refine (KA1.out _ HB.out).mono ?_; rintro e w2 ⟨rfl, hb2⟩)
          go_roundw
          case rel => exact ⟨n + 1, by omega, by go_num, HN, Lib.hid (HB.out.trans (hb2.mono HB.out.size))⟩
          case measure => simp [intOf]; omega
        · have HN := Lib.hid (HST.out n HK.out (.inr (fun h => hal (HG.out.1 h))))
          go_wp2_with (go_at_call 24; refine (KA1.out _ HB.out).mono ?_; rintro e w2 ⟨rfl, hb2⟩)
          go_ret
          exact ⟨n, rfl, HN.out, HB.out.trans (hb2.mono HB.out.size)⟩
      · have HN := Lib.hid (HST.out n HK.out (by
          by_cases h3 : mn ≤ (n : Int)
          · exact .inr (fun h => by have := h.1 mn HM1.out; omega)
          · left
            have h4 := moF_min most
            have h5 := HK.out.le
            have h6 := HMO.out
            split at h4 <;> omega))
        have g2 : decide ((n : Int) < mo) = false := decide_eq_false hlt
        clear hlt
        go_wp2
        go_ret
        exact ⟨n, rfl, HN.out, HB.out⟩
  · have HR : Hid (SeatsR (pls L) lf value most 0) := Lib.hid (by unfold SeatsR; rw [if_pos (by simp only [List.length_map]; omega)])
    have g1 : ((L.length : Int) != (lf.length : Int)) = true := by simp; omega
    have g2 : ¬ (L.length : Int) = (lf.length : Int) := by omega
    clear hL hM hok
    go_enter Try.func19, Try.ntmps19
    go_wp2
    go_ret
    exact ⟨0, rfl, HR.out, Below.refl _ _⟩
set_option maxRecDepth 100000 in
set_option maxHeartbeats 4000000 in
theorem rseats_any (A : Option Addr) (c : Nat) (L : List Cv) (B : Option Addr) (e : Nat) (lf : List Int) (value most : Int) (w : World) (hL : CvsL w (.slice A L.length c) L) (hM : IntR w (.slice B lf.length e) lf) (hok : OkCs L lf) (hl : lf.length < 9223372036854775808) :
    Calls Try.prog 20 #[.slice A L.length c, .slice B lf.length e, .int .i64 value, .int .i64 most] w fun e w' => ∃ r : Nat, e = .returned (.int .i64 (r : Int)) ∧ SeatsR (pls L) lf value most r ∧ Below w.heap.size w w' := by
  have hfew := hok.few
  by_cases h1 : L.length = lf.length
  · by_cases h0 : L.length = 0
    · have HR : Hid (SeatsR (pls L) lf value most 0) := Lib.hid (by unfold SeatsR; rw [if_pos (by simp only [List.length_map]; omega)])
      have g0 : ((L.length : Int) != (lf.length : Int)) = false := by simp [h1]
      have g1 : ((L.length : Int) == 0) = true := by simp [h0]
      rw [← h1]
      rw [← h1] at g0
      clear hL hM hok
      go_enter Try.func20, Try.ntmps20
      go_wp2
      go_ret
      exact ⟨0, rfl, HR.out, Below.refl _ _⟩
    have HST : Hid (∀ n : Nat, SeatsK (pls L) lf value most n → ((n : Int) = moF most ∨ ¬ GdP (pls L) lf value n) → SeatsR (pls L) lf value most n) := Lib.hid (fun n h hs => h.stop (by simpa using h1) (by omega) hs)
    have g0 : ((L.length : Int) != (lf.length : Int)) = false := by simp [h1]
    have g1 : ((L.length : Int) == 0) = false := by rw [beq_eq_false_iff_ne]; omega
    have HEN := Lib.hid h1
    have HL := Lib.hid hL
    have HM := Lib.hid hM
    have HO := Lib.hid hok
    have hL0 : 0 < L.length := by omega
    rw [← h1] at HM ⊢
    rw [← h1] at g0
    clear hL hM hok h1 h0
    go_enter Try.func20, Try.ntmps20
    go_wp2
    go_loopw [9] (fun v9 W => ∃ n : Nat, n ≤ 999 ∧ v9 = .int .i64 n ∧ Hid (SeatsK (pls L) lf value most n) ∧ Hid (Below w.heap.size w W)) (fun v9 _ => 999 - (intOf v9).toNat)
    case atStart => exact ⟨0, Nat.zero_le _, rfl, Lib.hid (SeatsK.zero _ _ _ _), Lib.hid (Below.refl _ _)⟩
    case round =>
      obtain ⟨n, hn, rfl, HK, HB⟩ := hrel
      have HEND : Hid (¬ ((n : Int) < most ∧ (n : Int) < 999) → SeatsR (pls L) lf value most n ∧ (n : Int) = max 0 (min most 999)) := Lib.hid (fun h => by
        have h4 := moF_min most
        have h5 := HK.out.le
        have h6 : (n : Int) = moF most := by split at h4 <;> omega
        exact ⟨HST.out n HK.out (.inl h6), by split at h4 <;> omega⟩)
      by_cases h2 : (n : Int) < most
      · by_cases h3 : (n : Int) < 999
        · have H23 : Hid ((n : Int) < most ∧ (n : Int) < 999) := Lib.hid ⟨h2, h3⟩
          have g2 : decide ((n : Int) < most) = true := decide_eq_true h2
          have g3 : decide ((n : Int) < 999) = true := decide_eq_true h3
          clear h2 HEND
          go_wp2
          go_loopw [10, 11] (fun s vi W => ∃ k : Nat, k ≤ L.length ∧ vi = .int .i64 k ∧ s = .int .i64 (alF ((pls L).take k) (lf.take k) n) ∧ Hid (Below w.heap.size w W) ∧ Hid (∀ x ∈ lf.take k, (n : Int) < x)) (fun _ vi _ => L.length - (intOf vi).toNat)
          case atStart => exact ⟨0, Nat.zero_le _, rfl, rfl, HB, Lib.hid (fun x hx => by simp at hx)⟩
          case round =>
            obtain ⟨k, hk, rfl, rfl, HC, HA⟩ := hrel
            by_cases hlt : k < L.length
            · obtain ⟨x, hx⟩ : ∃ x, L[k]? = some x := ⟨_, List.getElem?_eq_getElem hlt⟩
              obtain ⟨y, hy⟩ : ∃ y, lf[k]? = some y := ⟨_, List.getElem?_eq_getElem (by rw [← HEN.out]; exact hlt)⟩
              obtain ⟨b, off, e1, hgl, ha⟩ := row_get (HL.out.more HC.out).1 hx
              cases e1
              obtain ⟨b', off', e1', hgl', ha'⟩ := row_get (HM.out.more HC.out) hy
              cases e1'
              have i2 : (k : Int) < (L.length : Int) := by omega
              have z0 := ha 0 _ rfl
              have z1 := ha' 0 _ rfl
              rw [Nat.mul_one, Nat.add_zero] at z0 z1
              have hyi := HO.out.in' y (List.mem_of_getElem? hy)
              by_cases hyn : y ≤ (n : Int)
              · have HN := Lib.hid (HST.out n HK.out (.inr (fun h => by have := h.1 y (List.mem_of_getElem? hy); omega)))
                clear ha hgl ha' hgl' hx hy
                go_wp2
                go_ret
                exact ⟨n, rfl, HN.out, HC.out⟩
              · have hsu := HO.out.sum k n
                have hpi := prF_in (HO.out.right x (List.mem_of_getElem? hx)) (y - n)
                have HT := Lib.hid (alF_take (pls_at hx) hy (n : Int))
                have HA2 : Hid (∀ x ∈ lf.take (k + 1), (n : Int) < x) := Lib.hid (fun z hz => by
                  rw [List.take_add_one, hy] at hz
                  rcases List.mem_append.1 hz with hz | hz
                  · exact HA.out z hz
                  · simp at hz; omega)
                have HBX : Hid (∀ W, SW wr W → Calls Try.prog 14 #[.slice x.A x.l.length x.c, .int .i64 (y - n)] W fun e w' => e = .returned (.int .i64 (prF x.l (y - n))) ∧ w' = W) := Lib.hid (fun W hW => rprice_any x.A x.c x.l (y - n) W (by have := (HO.out.right x (List.mem_of_getElem? hx)).1; omega) (((HL.out.more HC.out).2 x (List.mem_of_getElem? hx)).more hW))
                clear ha hgl ha' hgl' hx hy
                generalize alF ((pls L).take k) (lf.take k) n = u at *
                generalize prF x.l (y - n) = pr at *
                go_wp2
                go_quiet ((go_at_call 14; exact Calls.quiet_of_same (HBX.out _ (below_drewN (Below.refl _ _) _))))
                go_wp2
                go_roundw
                case rel => exact ⟨k + 1, by omega, by go_num, by rw [HT.out], Lib.hid (below_drewN HC.out _), HA2⟩
                case measure => simp [intOf]; omega
            · have i2 : ¬ (k : Int) < (L.length : Int) := by omega
              have HALL : Hid (∀ x ∈ lf, (n : Int) < x) := Lib.hid (by have h := HA.out; rw [List.take_of_length_le (by have := HEN.out; omega)] at h; exact h)
              have HE : Hid (alF ((pls L).take k) (lf.take k) n = alF (pls L) lf n) := Lib.hid (by
                rw [List.take_of_length_le (by simp; omega), List.take_of_length_le (by have := HEN.out; omega)])
              have HG : Hid (GdP (pls L) lf value n ↔ alF ((pls L).take k) (lf.take k) n ≤ value) := Lib.hid (by rw [HE.out]; exact ⟨fun h => h.2, fun h => ⟨HALL.out, h⟩⟩)
              generalize alF ((pls L).take k) (lf.take k) n = al at *
              clear HE
              by_cases hal : value < al
              · have HN := Lib.hid (HST.out n HK.out (.inr (fun h => by have := HG.out.1 h; omega)))
                go_wp2
                go_ret
                exact ⟨n, rfl, HN.out, HC.out⟩
              · have HN := Lib.hid (HK.out.next H23.out.1 H23.out.2 (HG.out.2 (by omega)))
                have hn2 : n < 999 := by omega
                go_wp2
                go_roundw
                case rel => exact ⟨n + 1, by omega, by go_num, HN, HC⟩
                case measure => simp [intOf]; omega
        · have HN := Lib.hid (HEND.out (fun h => h3 h.2))
          have g2 : decide ((n : Int) < most) = true := decide_eq_true h2
          have g3 : decide ((n : Int) < 999) = false := decide_eq_false h3
          clear h2 h3 HEND
          go_wp2
          go_ret
          exact ⟨n, ret_int HN.out.2.symm, HN.out.1, HB.out⟩
      · have HN := Lib.hid (HEND.out (fun h => h2 h.1))
        have g2 : decide ((n : Int) < most) = false := decide_eq_false h2
        clear h2 HEND
        go_wp2
        go_ret
        exact ⟨n, ret_int HN.out.2.symm, HN.out.1, HB.out⟩
  · have HR : Hid (SeatsR (pls L) lf value most 0) := Lib.hid (by unfold SeatsR; rw [if_pos (by simp only [List.length_map]; omega)])
    have g1 : ((L.length : Int) != (lf.length : Int)) = true := by simp; omega
    have g2 : ¬ (L.length : Int) = (lf.length : Int) := by omega
    clear hL hM hok
    go_enter Try.func20, Try.ntmps20
    go_wp2
    go_ret
    exact ⟨0, rfl, HR.out, Below.refl _ _⟩
end Go.Proofs.Ytjogjlfgfohihaa
