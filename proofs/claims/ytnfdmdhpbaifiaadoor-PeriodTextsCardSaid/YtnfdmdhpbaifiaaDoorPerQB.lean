/- Plain: a period that was printed is read as it was, and a text that is read is the printed one. -/
import Derived.Test.YtnfdmdhpbaifiaaDoorPerQ
import Derived.Test.YtnfdmdhpbaifiaaDoorPerT
namespace Go.Proofs.YtnfdmdhpbaifiaaDoor
set_option linter.unusedSimpArgs false
set_option linter.unusedVariables false

theorem fits_slash : ∀ l p : List UInt8, fitsB l p = true → 47 ∉ p → 47 ∉ l
  | [], _, _, _ => by simp
  | _ :: _, [], h, _ => by simp [fitsB] at h
  | c :: r, q :: t, h, hp => by
    have h' : oneB c q = true ∧ fitsB r t = true := by simpa [fitsB] using h
    simp only [List.mem_cons, not_or] at hp ⊢
    refine ⟨fun e => ?_, fits_slash r t h'.2 hp.2⟩
    subst e
    have h1 := h'.1
    unfold oneB at h1
    split at h1
    · exact absurd h1 (by decide)
    · exact hp.1 (beq_iff_eq.1 h1)
theorem date_no {l : List UInt8} (h : (parseP l).2 = 0) : 47 ∉ l := by
  unfold parseP at h
  split at h
  · rename_i hf
    exact fits_slash _ _ hf (by decide)
  · simp at h
theorem cut_join (a r : List UInt8) (h : 47 ∉ a) : cutL (a ++ 47 :: r) = a :: cutL r := by
  induction a with
  | nil => exact cut_hit r
  | cons c a ih =>
    simp only [List.mem_cons, not_or] at h
    rw [List.cons_append, cut_miss (fun e => h.1 e.symm), ih h.2]
    rfl
theorem cut_one (a : List UInt8) (h : 47 ∉ a) : cutL a = [a] := by
  induction a with
  | nil => rfl
  | cons c a ih =>
    simp only [List.mem_cons, not_or] at h
    rw [cut_miss (fun e => h.1 e.symm), ih h.2]
    rfl
/-- the parts with a slash between -/
def joinS : List (List UInt8) → List UInt8
  | [] => []
  | [a] => a
  | a :: b :: r => a ++ 47 :: joinS (b :: r)
theorem joinS_glue (p : List UInt8) (a : List UInt8) (t : List (List UInt8)) : joinS (glue p (a :: t)) = p ++ joinS (a :: t) := by
  cases t with
  | nil => rfl
  | cons b r => simp [glue, joinS]
theorem join_cut (l : List UInt8) : joinS (cutL l) = l := by
  induction l with
  | nil => rfl
  | cons c r ih =>
    cases hc : cutL r with
    | nil => exact absurd hc (cutL_ne r)
    | cons a t =>
      rw [hc] at ih
      by_cases h : c = 47
      · subst h
        rw [cut_hit, hc]
        show [] ++ 47 :: joinS (a :: t) = _
        rw [ih]; rfl
      · rw [cut_miss h, hc, joinS_glue, ih]; rfl
theorem dig_more : ∀ d, d < 128 → ∀ j, j < 7 → d < 2 ^ j → digTo (d + 2 ^ j) 7 = digTo d 7 ++ [UInt8.ofNat (49 + j)] := by decide +kernel
theorem dig_read : ∀ d, d < 128 → d ≠ 0 → dgF 0 (digTo d 7) = ((d : Int), 0) := by decide +kernel
theorem dig_back : ∀ (l : List UInt8) (d : Nat), d < 128 → (dgF d l).2 = 0 → digTo (dgF d l).1.toNat 7 = digTo d 7 ++ l := by
  intro l
  induction l with
  | nil =>
    intro d hd h
    rw [dgF] at h ⊢
    split at h
    · simp at h
    · rename_i h0; rw [if_neg h0]; simp
  | cons c r ih =>
    intro d hd h
    rw [dgF] at h ⊢
    split at h
    · simp at h
    · rename_i h1
      split at h
      · simp at h
      · rename_i h2
        rw [if_neg h1, if_neg h2]
        obtain ⟨j, hj⟩ : ∃ j, c.toNat = 49 + j := ⟨c.toNat - 49, by omega⟩
        have e : c.toNat - 49 = j := by omega
        have ec : c = UInt8.ofNat (49 + j) := UInt8.toNat_inj.1 (by rw [UInt8.toNat_ofNat', hj]; omega)
        rw [e] at h h2 ⊢
        have hm := dig_more d hd j (by omega) (by omega)
        have hb : d + 2 ^ j < 128 := by
          have : j = 0 ∨ j = 1 ∨ j = 2 ∨ j = 3 ∨ j = 4 ∨ j = 5 ∨ j = 6 := by omega
          rcases this with rfl | rfl | rfl | rfl | rfl | rfl | rfl <;> omega
        rw [ih _ hb h, hm, ec]; simp
theorem dig_no : ∀ d, d < 128 → 47 ∉ digTo d 7 := by decide +kernel
theorem ok_of_err {p : Per} (h : errQ p = 0) : okQ p = true := by
  cases ho : okQ p
  · exact absurd h (errQ_no ho)
  · rfl
theorem per_nil : perR [] = ((0, 0, 0), 3) := by decide
theorem per_print {p : Per} (h : okQ p = true) : perR (perL p) = (p, 0) := by
  obtain ⟨f, t, d⟩ := p
  have hq := okQ_yes h
  have h0 := hq.1
  have h1 := hq.2.1
  have h2 := hq.2.2.1
  have h4 := hq.2.2.2.2.1
  have h5 := hq.2.2.2.2.2
  dsimp only at h0 h1 h2 h4 h5
  have pf : parseP (printL f) = (f, 0) := by rw [parse_print, if_pos (by simp [isDayB]; omega)]
  have pt : parseP (printL t) = (t, 0) := by rw [parse_print, if_pos (by simp [isDayB]; omega)]
  have ed : ((d.toNat : Nat) : Int) = d := by omega
  have hd := dig_read d.toNat (by omega) (by omega)
  rw [ed] at hd
  have hn := dig_no d.toNat (by omega)
  have hc : cutL (perL (f, t, d)) = [printL f, printL t, digL d] := by
    rw [perL, if_pos h]
    rw [show printL f ++ [47] ++ printL t ++ [47] ++ digL d = printL f ++ 47 :: (printL t ++ 47 :: digL d) by simp]
    rw [cut_join _ _ (date_no (by rw [pf])), cut_join _ _ (date_no (by rw [pt])), cut_one (digL d) hn]
  rw [perR_three hc]
  rw [per3_ok (by rw [pf]) (by rw [pt]) (by rw [show digL d = digTo d.toNat 7 from rfl, hd]) (by rw [pf, pt, show digL d = digTo d.toNat 7 from rfl, hd]; exact errQ_ok h), pf, pt, show digL d = digTo d.toNat 7 from rfl, hd]
theorem per_back {l : List UInt8} (h : (perR l).2 = 0) : perL (perR l).1 = l := by
  by_cases h3 : (cutL l).length = 3
  case neg => rw [perR_len h3] at h; simp at h
  obtain ⟨x, y, z, hxyz⟩ : ∃ x y z, cutL l = [x, y, z] := by
    match hc : cutL l, h3 with
    | [x, y, z], _ => exact ⟨x, y, z, rfl⟩
  have hj := join_cut l
  rw [hxyz] at hj
  rw [perR_three hxyz] at h ⊢
  by_cases ea : (parseP x).2 = 0
  case neg => rw [per3_a ea] at h; exact absurd h ea
  by_cases eb : (parseP y).2 = 0
  case neg => rw [per3_b ea eb] at h; exact absurd h eb
  by_cases ec : (dgF 0 z).2 = 0
  case neg => rw [per3_c ea eb ec] at h; exact absurd h ec
  by_cases ed : errQ ((parseP x).1, (parseP y).1, (dgF 0 z).1) = 0
  case neg => rw [per3_d ea eb ec ed] at h; exact absurd h ed
  rw [per3_ok ea eb ec ed, perL, if_pos (ok_of_err ed)]
  have hx : printL (parseP x).1 = x := parse_back (by rw [← ea])
  have hy : printL (parseP y).1 = y := parse_back (by rw [← eb])
  have hz : digL (dgF 0 z).1 = z := by
    have := dig_back z 0 (by omega) ec
    rw [digL, this]; rfl
  dsimp only
  rw [hx, hy, hz, ← hj]
  simp [joinS]

end Go.Proofs.YtnfdmdhpbaifiaaDoor
