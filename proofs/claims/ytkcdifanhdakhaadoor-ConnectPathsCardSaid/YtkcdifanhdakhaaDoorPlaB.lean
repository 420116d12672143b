/- Walks of the closures, of byCode, byCity, City and Country. -/
import Derived.Test.YtkcdifanhdakhaaDoorPlaA
namespace Go.Proofs.YtkcdifanhdakhaaDoor
open Go.RowKit Go.Shelf
set_option linter.unusedSimpArgs false
set_option linter.unusedVariables false

abbrev noB : ByteArray := ⟨#[]⟩
def airZ : Air := ⟨noB, noB, noB, 0, none, 0, []⟩
/-- texts are equal -/
def eqS (s t : ByteArray) : Bool := s.toList == t.toList
theorem eqS_iff (s t : ByteArray) : eqS s t = true ↔ s = t := by
  unfold eqS
  rw [beq_iff_eq, ByteArray.toList_eq, ByteArray.toList_eq]
  constructor
  · intro h
    have := congrArg List.toArray h
    simp at this
    cases s; cases t
    simpa using this
  · rintro rfl; rfl
theorem eqS_self (s : ByteArray) : eqS s s = true := (eqS_iff s s).2 rfl
def findC (l : List Air) (s : ByteArray) : Option Air := l.find? fun a => eqS a.code s
def findT (l : List Air) (s : ByteArray) : Option Air := l.find? fun a => eqS a.city s
def cityP (l : List Air) (s : ByteArray) : ByteArray := match findC l s with
  | some a => a.city
  | none => if (findT l s).isSome then s else noB
def landP (l : List Air) (s : ByteArray) : ByteArray := match findC l s with
  | some a => a.land
  | none => match findT l s with
    | some a => a.land
    | none => noB

set_option maxHeartbeats 400000 in
theorem codec_any (a : Air) (s : ByteArray) (B : Nat) (W : World) (z : W.cell? ⟨B, 0, none⟩ = some (.string s)) :
    Calls Tryd.prog 85 #[encA a, .pointer (some ⟨B, 0, none⟩)] W fun e w' => e = .returned (.bool (eqS a.code s)) ∧ Below W.heap.size W w' := by
  have hlt := World.block_lt_of_cell? _ _ z
  have z' := (Below.cell (bel_alloc W (.cells #[.string a.code, .string a.city, .string a.land, .int .i64 a.off, .slice a.A a.shs.length a.c] airT)) (p := ⟨B, 0, none⟩) hlt).trans z
  go_enter Tryd.func85, Tryd.ntmps85
  go_wp2
  go_ret
  exact ⟨rfl, bel_alloc _ _⟩
set_option maxHeartbeats 400000 in
theorem cityc_any (a : Air) (s : ByteArray) (B : Nat) (W : World) (z : W.cell? ⟨B, 0, none⟩ = some (.string s)) :
    Calls Tryd.prog 86 #[encA a, .pointer (some ⟨B, 0, none⟩)] W fun e w' => e = .returned (.bool (eqS a.city s)) ∧ Below W.heap.size W w' := by
  have hlt := World.block_lt_of_cell? _ _ z
  have z' := (Below.cell (bel_alloc W (.cells #[.string a.code, .string a.city, .string a.land, .int .i64 a.off, .slice a.A a.shs.length a.c] airT)) (p := ⟨B, 0, none⟩) hlt).trans z
  go_enter Tryd.func86, Tryd.ntmps86
  go_wp2
  go_ret
  exact ⟨rfl, bel_alloc _ _⟩
theorem eg_code : ∀ args w, (callFunc 85 args).run Tryd.prog w = .ok (.enter 85 args) w := enters_of Tryd.func85 (by kernel_rfl) rfl
theorem eg_city : ∀ args w, (callFunc 86 args).run Tryd.prog w = .ok (.enter 86 args) w := enters_of Tryd.func86 (by kernel_rfl) rfl
/-- the two boxes that byCode makes: the places' and the text's -/
def B2 (w : World) (p : PV) (s : ByteArray) : World := (w.alloc (.cells #[.slice p.A p.l.length p.ca, .slice p.D p.ds.length p.cd] placesT)).alloc (.cells #[.string s] 9)
theorem B2.bel (w : World) (p : PV) (s : ByteArray) : Below w.heap.size w (B2 w p s) := (bel_alloc _ _).alloc (by simp) _
theorem B2.zs (w : World) (p : PV) (s : ByteArray) : (B2 w p s).cell? ⟨w.heap.size + 1, 0, none⟩ = some (.string s) := by
  have h := cells_new (w.alloc (.cells #[.slice p.A p.l.length p.ca, .slice p.D p.ds.length p.cd] placesT)) #[.string s] 9 0
  rw [World.size_alloc] at h
  exact h
set_option maxHeartbeats 1000000 in
theorem byCode_any (p : PV) (s : ByteArray) (w : World) (hl : p.l.length ≤ 40) (hL : AirL w p.A p.l) :
    Calls Tryd.prog 70 #[encP p, .string s] w fun e w' => e = .returned (.int .i64 (idxA (fun a => eqS a.code s) p.l)) ∧ Below w.heap.size w w' := by
  have CI := Lib.hid (index_any _ #[.pointer (some ⟨w.heap.size + 1, 0, none⟩)] p.A p.ca p.l (fun a => eqS a.code s) (B2 w p s) eg_code hl (hL.more (B2.bel w p s))
    (fun a W ha hW => codec_any a s _ W (bel_cell hW (B2.zs w p s))))
  have hb := B2.bel w p s
  unfold B2 at *
  generalize idxA (fun a => eqS a.code s) p.l = r at *
  go_enter Tryd.func70, Tryd.ntmps70
  go_wp2_with (go_at_call 84; refine CI.out.mono ?_; rintro e w' ⟨rfl, hb'⟩)
  go_ret
  exact ⟨rfl, hb.trans (hb'.mono hb.size)⟩
set_option maxHeartbeats 1000000 in
theorem byCity_any (p : PV) (s : ByteArray) (w : World) (hl : p.l.length ≤ 40) (hL : AirL w p.A p.l) :
    Calls Tryd.prog 72 #[encP p, .string s] w fun e w' => e = .returned (.int .i64 (idxA (fun a => eqS a.city s) p.l)) ∧ Below w.heap.size w w' := by
  have CI := Lib.hid (index_any _ #[.pointer (some ⟨w.heap.size + 1, 0, none⟩)] p.A p.ca p.l (fun a => eqS a.city s) (B2 w p s) eg_city hl (hL.more (B2.bel w p s))
    (fun a W ha hW => cityc_any a s _ W (bel_cell hW (B2.zs w p s))))
  have hb := B2.bel w p s
  unfold B2 at *
  generalize idxA (fun a => eqS a.city s) p.l = r at *
  go_enter Tryd.func72, Tryd.ntmps72
  go_wp2_with (go_at_call 84; refine CI.out.mono ?_; rintro e w' ⟨rfl, hb'⟩)
  go_ret
  exact ⟨rfl, hb.trans (hb'.mono hb.size)⟩

set_option maxHeartbeats 2000000 in
theorem city_any (p : PV) (s : ByteArray) (w : World) (hl : p.l.length ≤ 40) (hL : AirL w p.A p.l) :
    Calls Tryd.prog 52 #[encP p, .string s] w fun e w' => e = .returned (.string (cityP p.l s)) ∧ Below w.heap.size w w' := by
  obtain ⟨A, ca, l, D, cd, ds⟩ := p
  dsimp only at *
  have hb0 := bel_alloc w (.cells #[.slice A l.length ca, .slice D ds.length cd] placesT)
  have p0 := cells_new w #[.slice A l.length ca, .slice D ds.length cd] placesT 0
  have p1 := cells_new w #[.slice A l.length ca, .slice D ds.length cd] placesT 1
  simp only [List.getElem?_toArray, List.getElem?_cons_zero, List.getElem?_cons_succ] at p0 p1
  have hL5 := hL.more hb0
  go_enter Tryd.func52, Tryd.ntmps52
  generalize hw5 : w.alloc (.cells #[.slice A l.length ca, .slice D ds.length cd] placesT) = w5 at *
  have f0 := bel_get p0
  have f1 := bel_get p1
  have hS : SW w5 w5 := Below.refl _ _
  have CC := Lib.hid (SW.call (w5 := w5) (fun W h => byCode_any ⟨A, ca, l, D, cd, ds⟩ s W hl (hL5.more h)))
  have CT := Lib.hid (SW.call (w5 := w5) (fun W h => byCity_any ⟨A, ca, l, D, cd, ds⟩ s W hl (hL5.more h)))
  rcases idxA_find (fun a => eqS a.code s) l with ⟨h1, h2⟩ | ⟨k, a, h1, h2, h3, h4⟩
  · rw [h1] at CC
    rcases idxA_find (fun a => eqS a.city s) l with ⟨h5, h6⟩ | ⟨k, a, h5, h6, h7, h8⟩
    · rw [h5] at CT
      have HR : Hid (cityP l s = noB) := Lib.hid (by simp [cityP, findC, findT, h2, h6])
      clear h1 h2 h5 h6 hL hL5
      go_wp2_with (first | (go_at_call 72; with_reducible refine (CT.out _ hS).mono ?_; rintro e w2 ⟨rfl, hS⟩) | (go_at_call 70; with_reducible refine (CC.out _ hS).mono ?_; rintro e w1 ⟨rfl, hS⟩; have x0 := f0 _ hS; have x1 := f1 _ hS))
      go_ret
      exact ⟨by rw [HR.out]; rfl, hb0.trans (Below.mono hS hb0.size)⟩
    · rw [h5] at CT
      have HR : Hid (cityP l s = s) := Lib.hid (by simp [cityP, findC, findT, h2, h7])
      have i1 : (0 : Int) ≤ (k : Int) := by omega
      clear h1 h2 h5 h6 h7 h8 hL hL5
      go_wp2_with (first | (go_at_call 72; with_reducible refine (CT.out _ hS).mono ?_; rintro e w2 ⟨rfl, hS⟩) | (go_at_call 70; with_reducible refine (CC.out _ hS).mono ?_; rintro e w1 ⟨rfl, hS⟩; have x0 := f0 _ hS; have x1 := f1 _ hS))
      go_ret
      exact ⟨by rw [HR.out]; rfl, hb0.trans (Below.mono hS hb0.size)⟩
  · rw [h1] at CC
    have HR : Hid (cityP l s = a.city) := Lib.hid (by simp [cityP, findC, h3])
    have i1 : (0 : Int) ≤ (k : Int) := by omega
    have i2 : (k : Int) < (l.length : Int) := by omega
    obtain ⟨b, o, a', rfl, hgl, hka, ha⟩ := hL5.at h4
    rw [h2] at hka
    obtain rfl := Option.some.inj hka
    have f2 := bel_get ha.c1
    clear hL hL5 CT h1 h2 h3 ha p0 p1
    go_wp2_with (go_at_call 70; with_reducible refine (CC.out _ hS).mono ?_; rintro e w1 ⟨rfl, hS⟩; have x0 := f0 _ hS; have x1 := f1 _ hS; have x2 := f2 _ hS)
    go_ret
    exact ⟨by rw [HR.out]; rfl, hb0.trans (Below.mono hS hb0.size)⟩

end Go.Proofs.YtkcdifanhdakhaaDoor
