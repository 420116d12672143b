/- Walks of the reference's occurs and classes. -/
import Derived.Test.YtkghpapbifijcaaGreatDoorCabB
import Derived.Test.YtkghpapbifijcaaGreatDoorCabA2
import Derived.Deep.LoopGhost
import Derived.BigQuiet
import Derived.Deep.CutRange
import Derived.Deep.CutBlock
import Derived.Deep.RegionWith
namespace Go.Proofs.YtkghpapbifijcaaGreatDoor
open Go.RowKit Go.Shelf
set_option linter.unusedSimpArgs false
set_option linter.unusedVariables false

theorem anyS_snoc2 (L : List ByteArray) (l : List Cl) (k : Nat) (y : Cl) (s : ByteArray) (h : l[k]? = some y) : anyS (L ++ codesC (l.take (k + 1))) s = (anyS (L ++ codesC (l.take k)) s || (y.code.toList == s.toList)) := by
  rw [codesC_snoc l k y h, ← List.append_assoc, anyS_snoc]
theorem anyS_app (L M : List ByteArray) (s : ByteArray) : anyS (L ++ M) s = (anyS L s || anyS M s) := by
  unfold anyS; rw [List.any_append]
theorem anyS_of {L M : List ByteArray} {s : ByteArray} (h : anyS L s = true) (hs : ∀ x ∈ L, x ∈ M) : anyS M s = true := by
  unfold anyS at h ⊢
  rw [List.any_eq_true] at h ⊢
  obtain ⟨x, hx, he⟩ := h
  exact ⟨x, hs x hx, he⟩
/-- a code that stands before the class k of the cabin i is among those before it -/
theorem occ_hit (l : List Cb) (i k i' k' : Nat) (b b' : Cb) (y : Cl) (s : ByteArray) (hb : l[i]? = some b) (hb' : l[i']? = some b') (hy : b'.l[k']? = some y) (hle : i' ≤ i) (hlt : i' = i → k' < k) (he : (y.code.toList == s.toList) = true) :
    anyS (codesB (l.take i) ++ codesC (b.l.take k)) s = true := by
  have h0 : anyS [y.code] s = true := by
    have h := anyS_snoc [] y.code s
    rw [he] at h
    simpa using h
  refine anyS_of h0 (fun x hx => ?_)
  rw [List.mem_singleton] at hx
  subst hx
  by_cases h : i' = i
  · subst h
    rw [hb] at hb'
    cases hb'
    refine List.mem_append_right _ (List.mem_map.2 ⟨y, ?_, rfl⟩)
    exact List.mem_of_getElem? (i := k') (by rw [List.getElem?_take, if_pos (hlt rfl)]; exact hy)
  · refine List.mem_append_left _ (List.mem_flatMap.2 ⟨b', List.mem_of_getElem? (i := i') (by rw [List.getElem?_take, if_pos (by omega)]; exact hb'), List.mem_map.2 ⟨y, List.mem_of_getElem? hy, rfl⟩⟩)

set_option maxRecDepth 100000 in
set_option maxHeartbeats 8000000 in
theorem roccurs_any (eq : ByteArray) (A : Option Addr) (c : Nat) (l : List Cb) (i k : Nat) (b : Cb) (x : Cl) (w : World) (hv : CbL w (.slice A l.length c) l) (hb : l[i]? = some b) (hx : b.l[k]? = some x) (hn : l.length ≤ 8) (hok : ∀ b ∈ l, b.l.length ≤ 30) :
    Calls Tryz.prog 136 #[.agg #[.string eq, .slice A l.length c], .int .i64 (i : Int), .int .i64 (k : Int)] w fun e w' => e = .returned (.bool (anyS (codesB (l.take i) ++ codesC (b.l.take k)) x.code)) ∧ Below w.heap.size w w' := by
  have hil : i < l.length := (List.getElem?_eq_some_iff.1 hb).1
  have hkl : k < b.l.length := (List.getElem?_eq_some_iff.1 hx).1
  have hbl := hok b (List.mem_of_getElem? hb)
  obtain ⟨b1, o1, e1, hb1, hc1⟩ := row_get hv.1 hb
  cases e1
  obtain ⟨b2, o2, e2, hb2, hc2⟩ := row_get (hv.2 b (List.mem_of_getElem? hb)) hx
  have x3 := hc1 3 _ rfl
  rw [e2] at x3
  have x0 := hc2 0 _ rfl
  rw [Nat.add_zero] at x0
  have HV := Lib.hid hv
  have HOK := Lib.hid hok
  have q1 := (cells_new w #[.string eq, .slice (some ⟨b1, o1, none⟩) l.length c] cfT 1).trans (show _ = some (Value.slice (some ⟨b1, o1, none⟩) l.length c) from rfl)
  have hb5 := bel_alloc w (.cells #[.string eq, .slice (some ⟨b1, o1, none⟩) l.length c] cfT)
  obtain ⟨Z, hZ⟩ : ∃ Z, Z = w.heap.size := ⟨_, rfl⟩
  rw [← hZ] at q1
  have x3 := bel_cell hb5 x3
  have x0 := bel_cell hb5 x0
  clear hb1 hc1 e2 hb2 hc2 hv hok
  have HB := Lib.hid hb
  have HX := Lib.hid hx
  clear hb hx
  go_enter Tryz.func136, Tryz.ntmps136
  go_upto_region 1 with fail
  rw [← hZ]
  have HZ := Lib.hid hZ
  clear hZ
  have HB5 := Lib.hid hb5
  generalize w.alloc (.cells #[.string eq, .slice (some ⟨b1, o1, none⟩) l.length c] cfT) = w5 at *
  clear hb5
  have HV5 : Hid (CbL w5 (.slice (some ⟨b1, o1, none⟩) l.length c) l) := Lib.hid (HV.out.more HB5.out)
  have Q1 := Lib.hid (fun W (h : SW w5 W) => bel_get q1 _ h)
  have X3 := Lib.hid (fun W (h : SW w5 W) => bel_get x3 _ h)
  have X0 := Lib.hid (fun W (h : SW w5 W) => bel_get x0 _ h)
  clear q1 x3 x0
  go_wp2
  go_loopg [7] i (fun kx v7 wr => ∃ i' : Nat, v7 = .int .i64 i' ∧ i' + kx = i ∧ Hid (anyS (codesB (l.take i')) x.code = false) ∧ SW w5 wr)
  case atStart => exact ⟨0, rfl, by omega, Lib.hid rfl, Below.refl _ _⟩
  case round =>
    obtain ⟨i', rfl, hix, HNo, hS⟩ := hrel
    have HIX := Lib.hid hix
    have j1 : (i' : Int) ≤ (i : Int) := by omega
    have j2 : (i' : Int) < (l.length : Int) := by omega
    have hi8 : i' < 8 := by omega
    obtain ⟨b', hb'⟩ : ∃ b', l[i']? = some b' := ⟨_, List.getElem?_eq_getElem (by omega)⟩
    have hlen' := HOK.out b' (List.mem_of_getElem? hb')
    have HB' := Lib.hid hb'
    have HSR := Lib.hid hS
    obtain ⟨nb, hnb⟩ : ∃ nb, nb = b'.l.length := ⟨_, rfl⟩
    have HNB := Lib.hid hnb
    rw [← hnb] at hlen'
    have HI0 : Hid (anyS (codesB (l.take i') ++ codesC (b'.l.take 0)) x.code = false) := Lib.hid (by have := HNo.out; simpa [codesC] using this)
    clear hb' hnb hix hS
    go_wp2
    go_loopg [8] nb (fun kx v8 wq => ∃ k' : Nat, v8 = .int .i64 k' ∧ k' + kx = nb ∧ Hid ((i' = i → k' ≤ k) ∧ anyS (codesB (l.take i') ++ codesC (b'.l.take k')) x.code = false) ∧ SW wr wq)
    case atStart => exact ⟨0, rfl, by omega, Lib.hid ⟨fun _ => Nat.zero_le _, HI0.out⟩, Below.refl _ _⟩
    case round =>
      obtain ⟨k', rfl, hkx, HK, hSq⟩ := hrel
      have HKX := Lib.hid hkx
      have hS5 : SW w5 wr := Below.trans HSR.out (Below.mono hSq HSR.out.size)
      have HS5 := Lib.hid hS5
      have hk30 : k' ≤ 30 := by omega
      have p1 := Q1.out _ hS5
      obtain ⟨b3, o3, e3, hb3, hc3⟩ := row_get (HV5.out.more hS5).1 HB'.out
      cases e3
      have p3 := hc3 3 _ rfl
      by_cases hlt : k' < nb
      · obtain ⟨y, hy⟩ : ∃ y, b'.l[k']? = some y := ⟨_, List.getElem?_eq_getElem (by have := HNB.out; omega)⟩
        obtain ⟨b4, o4, e4, hb4, hc4⟩ := row_get ((HV5.out.more hS5).2 b' (List.mem_of_getElem? HB'.out)) hy
        rw [e4] at p3
        rw [← HNB.out] at p3
        have p0 := hc4 0 _ rfl
        rw [Nat.add_zero] at p0
        have i1 : (k' : Int) < (nb : Int) := by omega
        have i2 : (i : Int) < (l.length : Int) := by omega
        have i3 : (k : Int) < (b.l.length : Int) := by omega
        have x3 := X3.out _ hS5
        have x0 := X0.out _ hS5
        have HY := Lib.hid hy
        have HSq := Lib.hid hSq
        clear hc3 e4 hb4 hc4 hb3 hy hSq hkx
        by_cases hii : i' = i
        · by_cases hkk : k' = k
          · have HR : Hid (false = anyS (codesB (l.take i) ++ codesC (b.l.take k)) x.code) := Lib.hid (by
              have h := HK.out.2
              have hb2 : b' = b := by have h1 := HB'.out; rw [hii, HB.out] at h1; exact (Option.some.inj h1).symm
              rw [hii, hkk, hb2] at h
              exact h.symm)
            have g1 : ((i' : Int) == (i : Int)) = true := by simp [hii]
            have g2 : ((k' : Int) == (k : Int)) = true := by simp [hkk]
            clear hii hkk
            go_wp2
            go_ret
            exact ⟨ret_bool HR.out, HB5.out.trans (Below.mono HS5.out HB5.out.size)⟩
          · have g1 : ((i' : Int) == (i : Int)) = true := by simp [hii]
            have g2 : ((k' : Int) == (k : Int)) = false := by rw [beq_eq_false_iff_ne]; omega
            have HLT : Hid (i' = i → k' + 1 ≤ k) := Lib.hid (fun h => by have := HK.out.1 h; omega)
            clear hii hkk
            cases he : (y.code.toList == x.code.toList) with
            | true =>
              have HR : Hid (true = anyS (codesB (l.take i) ++ codesC (b.l.take k)) x.code) := Lib.hid (occ_hit l i k i' k' b b' y x.code HB.out HB'.out HY.out (by omega) (fun h => by have := HLT.out h; omega) he).symm
              go_wp2
              go_quiet (fail)
              go_wp2
              go_ret
              exact ⟨ret_bool HR.out, below_drewN (HB5.out.trans (Below.mono HS5.out HB5.out.size)) _⟩
            | false =>
              have HK2 : Hid ((i' = i → k' + 1 ≤ k) ∧ anyS (codesB (l.take i') ++ codesC (b'.l.take (k' + 1))) x.code = false) := Lib.hid ⟨HLT.out, by rw [anyS_snoc2 _ _ _ _ _ HY.out, HK.out.2, he]; rfl⟩
              go_wp2
              go_quiet (fail)
              go_wp2
              go_roundg (nb - (k' + 1))
              case measure => have := HKX.out; omega
              case rel => exact ⟨k' + 1, by go_num, by omega, HK2, below_drewN HSq.out _⟩
        · have g1 : ((i' : Int) == (i : Int)) = false := by rw [beq_eq_false_iff_ne]; omega
          have HLT : Hid (i' = i → k' + 1 ≤ k) := Lib.hid (fun h => absurd h hii)
          clear hii
          cases he : (y.code.toList == x.code.toList) with
          | true =>
            have HR : Hid (true = anyS (codesB (l.take i) ++ codesC (b.l.take k)) x.code) := Lib.hid (occ_hit l i k i' k' b b' y x.code HB.out HB'.out HY.out (by omega) (fun h => by have := HLT.out h; omega) he).symm
            go_wp2
            go_quiet (fail)
            go_wp2
            go_ret
            exact ⟨ret_bool HR.out, below_drewN (HB5.out.trans (Below.mono HS5.out HB5.out.size)) _⟩
          | false =>
            have HK2 : Hid ((i' = i → k' + 1 ≤ k) ∧ anyS (codesB (l.take i') ++ codesC (b'.l.take (k' + 1))) x.code = false) := Lib.hid ⟨HLT.out, by rw [anyS_snoc2 _ _ _ _ _ HY.out, HK.out.2, he]; rfl⟩
            go_wp2
            go_quiet (fail)
            go_wp2
            go_roundg (nb - (k' + 1))
            case measure => have := HKX.out; omega
            case rel => exact ⟨k' + 1, by go_num, by omega, HK2, below_drewN HSq.out _⟩
      · have i1 : ¬ (k' : Int) < (nb : Int) := by omega
        have hkn : k' = nb := by omega
        have hne : i' ≠ i := fun h => by
          have h1 := HK.out.1 h
          have hb2 : b' = b := by have h1 := HB'.out; rw [h, HB.out] at h1; exact (Option.some.inj h1).symm
          have := HNB.out
          rw [hb2] at this
          omega
        rw [← HNB.out] at p3
        have HNo2 : Hid (anyS (codesB (l.take (i' + 1))) x.code = false) := Lib.hid (by
          rw [codesB_snoc l i' b' HB'.out]
          have h := HK.out.2
          have e : b'.l.take k' = b'.l := List.take_of_length_le (by have := HNB.out; omega)
          rw [e] at h
          exact h)
        have hg : i' + 1 ≤ i := by omega
        clear hne hkn
        go_wp2
        go_roundg (i - (i' + 1))
        case measure => have := HIX.out; omega
        case rel => exact ⟨i' + 1, by go_num, by omega, HNo2, hS5⟩
end Go.Proofs.YtkghpapbifijcaaGreatDoor
