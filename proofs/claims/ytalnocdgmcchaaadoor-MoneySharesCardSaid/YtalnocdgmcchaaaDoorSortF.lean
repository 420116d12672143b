/- The library's stable sort, walked: slices.SortStableFunc on at most 160 elements leaves the one stable order. -/
import Derived.Test.YtalnocdgmcchaaaDoorSortE
namespace Go.Proofs.YtalnocdgmcchaaaDoor
open Go.Shelf Go.RowKit Go.Lib Go.Sort
set_option linter.unusedSimpArgs false
set_option linter.unusedVariables false
variable {α : Type} [Inhabited α]

set_option maxHeartbeats 8000000 in
set_option maxRecDepth 100000 in
theorem stable_s (enc : α → Value) (cf : α → α → Int) (tot : α → α → Bool) (lo : α → α → Prop) (O : Ordd (ltOf cf) tot lo) (g : Nat) (cb : Array Value) (blk off cap n : Nat) (d0 d : Array α) (w0 w : World)
    (eg : ∀ args w, (callFunc g args).run Tryd.prog w = .ok (.enter g args) w) (hcmp : CmpLays1 Tryd.prog g cb enc cf blk off d0.size w0) (R : Row1 enc w0 blk off d0)
    (hs : d0.size = d.size) (S : SW enc w0 blk off d w) (hn : n = d.size) (h160 : n ≤ 160) (H : ∀ i j, i < j → j < n → lo d[i]! d[j]!) :
    Calls Tryd.prog 56 #[.slice (some ⟨blk, off, none⟩) d.size cap, .int .i64 n, .func (.func g) #[] cb] w
      (Left enc w0 blk off fun d' => PermIn 0 n d d' ∧ SortedIn tot 0 n d') := by
  have INS := Lib.hid (fun (a b : Nat) (dk : Array α) (hd : dk.size = d.size) w' (S : SW enc w0 blk off dk w') (hab : a ≤ b) (hb : b ≤ n) (hl : Lab tot lo n (labI a) dk) => by
    have C := insertion_s enc cf tot lo O g cb blk off cap a b d0 dk w0 w' eg hcmp R (by omega) S hab (by omega) (by omega) (labI_asc hl hb)
    rw [hd] at C
    exact C)
  have MRG := Lib.hid (fun (a m b : Nat) (dk : Array α) (hd : dk.size = d.size) w' (S : SW enc w0 blk off dk w') (h1 : a < m) (h2 : m < b) (hb : b ≤ n) (hl : Halves tot lo a m b dk) => by
    have C := symMerge_all enc cf tot lo O g cb blk off cap d0 w0 eg hcmp R _ a m b dk w' (Nat.le_refl _) h1 h2 (by omega) (by omega) (by omega) S hl
    rw [hd] at C
    exact C)
  have S0 : Aside (SW enc w0 blk off d w) := S
  have HF := Lib.hid (labI_first (tot := tot) H)
  have HN := Lib.hid hn
  clear S H hn hcmp
  go_enter Tryd.func56, Tryd.ntmps56
  go_wp2
  go_loopg [7, 8] n (fun g1 va vb wr => ∃ (a : Nat) (dk : Array α), va = .int .i64 a ∧ vb = .int .i64 ((a : Int) + 20) ∧ Hid (a % 20 = 0) ∧ a ≤ n ∧ n - a ≤ g1 ∧ Hid (dk.size = d.size) ∧ Aside (SW enc w0 blk off dk wr) ∧ Hid (Lab tot lo n (labI a) dk) ∧ Hid (PermIn 0 n d dk))
  case atStart => exact ⟨0, d, rfl, rfl, Lib.hid rfl, by omega, by omega, Lib.hid rfl, S0, HF, Lib.hid (permIn_refl _ _ _)⟩
  case round =>
    clear S0 HF
    obtain ⟨a, dk, rfl, rfl, HA, han, hg1, HD, S1, HL, HP⟩ := hrel
    by_cases hlt : a + 20 ≤ n
    · have hltz : (a : Int) + 20 ≤ (n : Int) := by omega
      have hz : (a : Int) + 20 = ((a + 20 : Nat) : Int) := by omega
      have C := INS.out a (a + 20) dk HD.out
      rw [← hz] at C
      have C' := Lib.hid C
      clear C hz
      go_wp2_with fail
      refine (C'.out _ S1.out (by omega) hlt HL.out).mono ?_
      rintro e' w' ⟨rfl, d2, ⟨q1, q2⟩, S2⟩
      have Q1 := Lib.hid q1
      have Q2 := Lib.hid q2
      have T2 : Aside _ := S2
      clear q1 q2 S2
      go_wp2
      go_roundg (n - (a + 20))
      case measure => omega
      case rel =>
        have hN := HN.out
        have hD := HD.out
        have hA := HA.out
        exact ⟨a + 20, d2, by go_num, (by first | (congr 1; done) | (congr 1; omega)), Lib.hid (by omega), hlt, by omega, Lib.hid (Q1.out.1.trans hD), T2,
          Lib.hid (labI_step HL.out hA (by omega) hlt (by omega) (Or.inl rfl) (by omega) h160 Q1.out Q2.out), Lib.hid (permIn_trans _ _ _ _ _ HP.out (permIn_mono _ _ a (a + 20) 0 n (by omega) hlt (by omega) Q1.out))⟩
    · have hltz : ¬ (a : Int) + 20 ≤ (n : Int) := by omega
      go_wp2_with fail
      refine (INS.out a n dk HD.out _ S1.out han (Nat.le_refl _) HL.out).mono ?_
      rintro e' w' ⟨rfl, d2, ⟨q1, q2⟩, S2⟩
      have Q2 : Hid (Lab tot lo n (labM 40 20 0) d2) := Lib.hid (labI_last (labI_step HL.out HA.out han (Nat.le_refl _) (by omega) (Or.inr rfl) (by have := HN.out; have := HD.out; omega) h160 q1 q2) )
      have Q1 : Hid (PermIn 0 n d d2) := Lib.hid (permIn_trans _ _ _ _ _ HP.out (permIn_mono _ _ a n 0 n (by omega) (Nat.le_refl _) (by have := HN.out; have := HD.out; omega) q1))
      have Q3 : Hid (d2.size = d.size) := Lib.hid (q1.1.trans HD.out)
      have T2 : Aside _ := S2
      clear q1 q2 S2 HL HP HD hltz
      go_wp2_with fail
      go_loopg [6, 7, 8, 9] (160 - 20) (fun g1 vB va vb vm wr => ∃ (B : Nat) (d3 : Array α), vB = .int .i64 B ∧ Hid (B = 20 ∨ B = 40 ∨ B = 80 ∨ B = 160) ∧ 20 ≤ B ∧ B ≤ 160 ∧ 160 - B ≤ g1 ∧ Hid (d3.size = d.size) ∧ Aside (SW enc w0 blk off d3 wr) ∧ Hid (Lab tot lo n (labM (2 * B) B 0) d3) ∧ Hid (PermIn 0 n d d3))
      case atStart => exact ⟨20, d2, rfl, Lib.hid (Or.inl rfl), by omega, by omega, by omega, Q3, T2, Q2, Q1⟩
      case round =>
        clear Q1 Q2 Q3 T2
        obtain ⟨B, d3, rfl, HB, hB1, hB2, hg2, HD, S1, HL, HP⟩ := hrel
        by_cases hlt : B < n
        · have hltz : (B : Int) < (n : Int) := by omega
          have HB3 : Hid (B = 20 ∨ B = 40 ∨ B = 80) := Lib.hid (by have := HB.out; omega)
          go_wp2
          go_loopg [7, 8] n (fun g3 va vb wr => ∃ (c : Nat) (d4 : Array α), va = .int .i64 c ∧ vb = .int .i64 ((c : Int) + 2 * (B : Int)) ∧ Hid (c % (2 * B) = 0) ∧ c ≤ n ∧ n - c ≤ g3 ∧ Hid (d4.size = d.size) ∧ Aside (SW enc w0 blk off d4 wr) ∧ Hid (Lab tot lo n (labM (2 * B) B c) d4) ∧ Hid (PermIn 0 n d d4))
          case atStart => exact ⟨0, d3, rfl, by go_num, Lib.hid (by simp), by omega, by omega, HD, S1, HL, HP⟩
          case round =>
            clear HL HP HD S1
            obtain ⟨c, d4, rfl, rfl, HA, hcn, hg3, HD, S1, HL, HP⟩ := hrel
            by_cases hlc : c + 2 * B ≤ n
            · have hlcz : (c : Int) + 2 * (B : Int) ≤ (n : Int) := by omega
              have hz : (c : Int) + 2 * (B : Int) = ((c + 2 * B : Nat) : Int) := by omega
              have hz2 : (c : Int) + (B : Int) = ((c + B : Nat) : Int) := by omega
              have C := MRG.out c (c + B) (c + 2 * B) d4 HD.out
              rw [← hz, ← hz2] at C
              have C' := Lib.hid C
              clear C hz hz2
              go_wp2_with fail
              refine (C'.out _ S1.out (by omega) (by omega) hlc (labM_halves HL.out HB3.out HA.out (by omega) hlc (by omega) h160)).mono ?_
              rintro e' w' ⟨rfl, d5, ⟨q1, q2⟩, S2⟩
              have Q1 := Lib.hid q1
              have Q2 := Lib.hid q2
              have T2 : Aside _ := S2
              clear q1 q2 S2
              go_wp2
              go_roundg (n - (c + 2 * B))
              case measure => omega
              case rel =>
                have hN := HN.out
                have hD := HD.out
                exact ⟨c + 2 * B, d5, (by first | (congr 1; done) | (congr 1; omega)), (by first | (congr 1; done) | (congr 1; omega)), Lib.hid (by rw [Nat.add_mod_right]; exact HA.out), hlc, by omega, Lib.hid (Q1.out.1.trans hD), T2,
                  Lib.hid (labM_step HL.out HB3.out HA.out (by omega) hlc (by omega) (Or.inl rfl) (by omega) h160 Q1.out Q2.out), Lib.hid (permIn_trans _ _ _ _ _ HP.out (permIn_mono _ _ c (c + 2 * B) 0 n (by omega) hlc (by omega) Q1.out))⟩
            · have hlcz : ¬ (c : Int) + 2 * (B : Int) ≤ (n : Int) := by omega
              by_cases hm : c + B < n
              · have hmz : (c : Int) + (B : Int) < (n : Int) := by omega
                have hz2 : (c : Int) + (B : Int) = ((c + B : Nat) : Int) := by omega
                have C := MRG.out c (c + B) n d4 HD.out
                rw [← hz2] at C
                have C' := Lib.hid C
                clear C hz2
                go_wp2_with fail
                refine (C'.out _ S1.out (by omega) hm (Nat.le_refl _) (labM_halves HL.out HB3.out HA.out (by omega) (Nat.le_refl _) (by omega) h160)).mono ?_
                rintro e' w' ⟨rfl, d5, ⟨q1, q2⟩, S2⟩
                have L2 : Hid (Lab tot lo n (labM (2 * (2 * B)) (2 * B) 0) d5) := Lib.hid (by
                  have hN := HN.out
                  have hD := HD.out
                  have L := labM_step HL.out HB3.out HA.out hcn (Nat.le_refl _) (by omega) (Or.inr rfl) (by omega) h160 q1 q2
                  exact labM_whole L HB3.out HA.out (by omega) (by omega) h160)
                have Q1 : Hid (PermIn 0 n d d5) := Lib.hid (permIn_trans _ _ _ _ _ HP.out (permIn_mono _ _ c n 0 n (by omega) (Nat.le_refl _) (by have := HN.out; have := HD.out; omega) q1))
                have Q3 : Hid (d5.size = d.size) := Lib.hid (q1.1.trans HD.out)
                have T2 : Aside _ := S2
                clear q1 q2 S2
                go_wp2
                go_roundg (160 - 2 * B)
                case measure => omega
                case rel => exact ⟨2 * B, d5, (by first | (congr 1; done) | (congr 1; omega)), Lib.hid (by have := HB3.out; omega), by omega, by have := HB3.out; omega, by omega, Q3, T2, L2, Q1⟩
              · have hmz : ¬ (c : Int) + (B : Int) < (n : Int) := by omega
                have L2 : Hid (Lab tot lo n (labM (2 * (2 * B)) (2 * B) 0) d4) := Lib.hid (labM_next HL.out HB3.out HA.out (by omega) h160)
                go_wp2
                go_roundg (160 - 2 * B)
                case measure => omega
                case rel => exact ⟨2 * B, d4, (by first | (congr 1; done) | (congr 1; omega)), Lib.hid (by have := HB3.out; omega), by omega, by have := HB3.out; omega, by omega, HD, S1, L2, HP⟩
        · have hltz : ¬ (B : Int) < (n : Int) := by omega
          go_wp2
          go_end0
          exact ⟨rfl, d3, ⟨HP.out, labM_sorted HL.out (by omega) (by omega)⟩, S1.out⟩

set_option maxHeartbeats 4000000 in
set_option maxRecDepth 100000 in
/-- slices.SortStableFunc -/
theorem sortStable_s (enc : α → Value) (cf : α → α → Int) (tot : α → α → Bool) (lo : α → α → Prop) (O : Ordd (ltOf cf) tot lo) (g : Nat) (cb : Array Value) (blk off cap : Nat) (d : Array α) (w : World)
    (eg : ∀ args w, (callFunc g args).run Tryd.prog w = .ok (.enter g args) w) (hcmp : CmpLays1 Tryd.prog g cb enc cf blk off d.size w) (R : Row1 enc w blk off d)
    (h160 : d.size ≤ 160) (H : ∀ i j, i < j → j < d.size → lo d[i]! d[j]!) :
    Calls Tryd.prog 47 #[.slice (some ⟨blk, off, none⟩) d.size cap, .func (.func g) #[] cb] w
      (Left enc w blk off fun d' => PermIn 0 d.size d d' ∧ SortedIn tot 0 d.size d') := by
  have C := Lib.hid (fun w' (S : SW enc w blk off d w') => stable_s enc cf tot lo O g cb blk off cap d.size d d w w' eg hcmp R rfl S rfl h160 H)
  have S0 : Aside (SW enc w blk off d w) := SW.start R.hH
  clear H hcmp
  go_enter Tryd.func47, Tryd.ntmps47
  go_wp2_with fail
  refine (C.out _ S0.out).mono ?_
  rintro e' w' ⟨rfl, d2, ⟨q1, q2⟩, S2⟩
  have Q1 := Lib.hid q1
  have Q2 := Lib.hid q2
  have T2 : Aside _ := S2
  clear q1 q2 S2
  go_wp2
  go_end0
  exact ⟨rfl, d2, ⟨Q1.out, Q2.out⟩, T2.out⟩
end Go.Proofs.YtalnocdgmcchaaaDoor
