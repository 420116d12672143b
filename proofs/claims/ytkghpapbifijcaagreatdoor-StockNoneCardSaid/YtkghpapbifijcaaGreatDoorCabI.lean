/- slices.IndexFunc at classes and at configurations; the place of a class. -/
import Derived.Test.YtkghpapbifijcaaGreatDoorCabA
import Derived.Deep.LoopGhost
import Derived.BigQuiet
import Derived.Deep.CutRange
import Derived.Deep.CutBlock
namespace Go.Proofs.YtkghpapbifijcaaGreatDoor
open Go.RowKit Go.Shelf
set_option linter.unusedSimpArgs false
set_option linter.unusedVariables false

/-- the first place of which p says true -/
def idxQ {α : Type} (p : α → Bool) : List α → Int
  | [] => -1
  | a :: r => if p a = true then 0 else if idxQ p r < 0 then -1 else idxQ p r + 1
theorem idxQ_find {α : Type} (p : α → Bool) : ∀ l : List α, (idxQ p l = -1 ∧ l.find? p = none ∧ ∀ (j : Nat) (x : α), l[j]? = some x → p x = false) ∨ ∃ (k : Nat) (a : α), idxQ p l = (k : Int) ∧ l[k]? = some a ∧ l.find? p = some a ∧ k < l.length ∧ p a = true ∧ ∀ (j : Nat) (x : α), j < k → l[j]? = some x → p x = false
  | [] => .inl ⟨rfl, rfl, fun j x h => by simp at h⟩
  | a :: r => by
    cases h : p a
    · rcases idxQ_find p r with ⟨h1, h2, h3⟩ | ⟨k, x, h1, h2, h3, h4, h5, h6⟩
      · left
        refine ⟨by simp [idxQ, h, h1], by simp [List.find?_cons, h, h2], fun j x hx => ?_⟩
        cases j with
        | zero => simp at hx; subst hx; exact h
        | succ j => exact h3 j x (by simpa using hx)
      · right
        refine ⟨k + 1, x, ?_, by simpa using h2, by simp [List.find?_cons, h, h3], by simpa using h4, h5, fun j y hj hy => ?_⟩
        · simp only [idxQ, h, h1]
          rw [if_neg (by simp), if_neg (by omega)]
          omega
        · cases j with
          | zero => simp at hy; subst hy; exact h
          | succ j => exact h6 j y (by omega) (by simpa using hy)
    · right
      exact ⟨0, a, by simp [idxQ, h], by simp, by simp [List.find?_cons, h], by simp, h, fun j y hj => absurd hj (Nat.not_lt_zero _)⟩
theorem idxQ_yes {α : Type} {p : α → Bool} {l : List α} {k : Nat} {a : α} (h : ∀ (j : Nat) (x : α), j < k → l[j]? = some x → p x = false) (hk : l[k]? = some a) (hp : p a = true) : idxQ p l = (k : Int) := by
  rcases idxQ_find p l with ⟨_, _, h3⟩ | ⟨m, b, h1, h2, _, _, h5, h6⟩
  · rw [h3 k a hk] at hp; cases hp
  · have : m = k := by
      rcases Nat.lt_trichotomy m k with hlt | he | hlt
      · rw [h m b hlt h2] at h5; cases h5
      · exact he
      · rw [h6 k a hlt hk] at hp; cases hp
    rw [h1, this]
theorem idxQ_no {α : Type} {p : α → Bool} {l : List α} (h : ∀ (j : Nat) (x : α), l[j]? = some x → p x = false) : idxQ p l = -1 := by
  rcases idxQ_find p l with ⟨h1, _, _⟩ | ⟨m, b, _, h2, _, _, h5, _⟩
  · exact h1
  · rw [h m b h2] at h5; cases h5

set_option maxHeartbeats 4000000 in
set_option maxRecDepth 100000 in
theorem idxCl_any (g : Nat) (cb : Array Value) (A : Option Addr) (c : Nat) (l : List Cl) (p : Cl → Bool) (w : World) (eg : ∀ args w, (callFunc g args).run Tryz.prog w = .ok (.enter g args) w) (hl : l.length ≤ 40) (hL : RowL 2 encCl w (.slice A l.length c) l)
    (hf : ∀ (a : Cl) (W : World), a ∈ l → Below w.heap.size w W → Calls Tryz.prog g (#[aggCl a] ++ cb) W fun e w' => e = .returned (.bool (p a)) ∧ Below W.heap.size W w') :
    Calls Tryz.prog 109 #[.slice A l.length c, .func (.func g) #[] cb] w fun e w' => e = .returned (.int .i64 (idxQ p l)) ∧ Below w.heap.size w w' := by
  have HF := Lib.hid hf
  have HI : Hid (∀ (k : Nat) (a : Cl), (∀ (j : Nat) (x : Cl), j < k → l[j]? = some x → p x = false) → l[k]? = some a → p a = true → idxQ p l = (k : Int)) := Lib.hid (fun k a => idxQ_yes)
  have HN : Hid ((∀ (j : Nat) (x : Cl), l[j]? = some x → p x = false) → idxQ p l = -1) := Lib.hid idxQ_no
  have HL := Lib.hid hL
  clear hf hL
  generalize idxQ p l = r at *
  go_enter Tryz.func109, Tryz.ntmps109
  go_wp2
  go_loopw [8] (fun vi wr => ∃ k : Nat, k ≤ l.length ∧ vi = .int .i64 k ∧ Hid (∀ (j : Nat) (x : Cl), j < k → l[j]? = some x → p x = false) ∧ Below w.heap.size w wr) (fun vi _ => l.length - (intOf vi).toNat)
  case atStart => exact ⟨0, Nat.zero_le _, rfl, Lib.hid (fun j x hj => absurd hj (Nat.not_lt_zero _)), Below.refl _ _⟩
  case round =>
    obtain ⟨k, hk, rfl, HK, hb⟩ := hrel
    by_cases hlt : k < l.length
    · obtain ⟨a, hka⟩ : ∃ a, l[k]? = some a := ⟨_, List.getElem?_eq_getElem hlt⟩
      obtain ⟨b, off, e1, hgl, ha⟩ := row_get (HL.out.more hb) hka
      cases e1
      have i2 : (k : Int) < (l.length : Int) := by omega
      have z0 := ha 0 _ rfl
      have z1 := ha 1 _ rfl
      rw [Nat.add_zero] at z0
      have hc := HF.out a wr (List.mem_of_getElem? hka) hb
      clear ha hgl
      cases hp : p a <;> rw [hp] at hc
      · have HP := Lib.hid hp
        have HA := Lib.hid hka
        clear hp hka
        go_wp2_with (refine hc.mono ?_; rintro e w' ⟨rfl, hb'⟩)
        go_roundw
        case rel =>
          refine ⟨k + 1, by omega, by go_num, Lib.hid (fun j x hj hx => ?_), hb.trans (hb'.mono hb.size)⟩
          by_cases hjk : j = k
          · subst hjk
            rw [HA.out] at hx
            cases hx
            exact HP.out
          · exact HK.out j x (by omega) hx
        case measure => simp [intOf]; omega
      · have HR := Lib.hid (HI.out k a HK.out hka hp)
        clear hp hka
        go_wp2_with (refine hc.mono ?_; rintro e w' ⟨rfl, hb'⟩)
        go_ret
        exact ⟨by rw [HR.out]; rfl, hb.trans (hb'.mono hb.size)⟩
    · have HR := Lib.hid (HN.out (fun j x hx => HK.out j x (by have := (List.getElem?_eq_some_iff.1 hx).1; omega) hx))
      go_wp2
      go_ret
      exact ⟨by rw [HR.out]; rfl, hb⟩

set_option maxHeartbeats 4000000 in
set_option maxRecDepth 100000 in
theorem idxCf_any (g : Nat) (cb : Array Value) (A : Option Addr) (c : Nat) (l : List Cf) (p : Cf → Bool) (w : World) (eg : ∀ args w, (callFunc g args).run Tryz.prog w = .ok (.enter g args) w) (hl : l.length ≤ 40) (hL : RowL 2 encCf w (.slice A l.length c) l)
    (hf : ∀ (a : Cf) (W : World), a ∈ l → Below w.heap.size w W → Calls Tryz.prog g (#[aggCf a] ++ cb) W fun e w' => e = .returned (.bool (p a)) ∧ Below W.heap.size W w') :
    Calls Tryz.prog 89 #[.slice A l.length c, .func (.func g) #[] cb] w fun e w' => e = .returned (.int .i64 (idxQ p l)) ∧ Below w.heap.size w w' := by
  have HF := Lib.hid hf
  have HI : Hid (∀ (k : Nat) (a : Cf), (∀ (j : Nat) (x : Cf), j < k → l[j]? = some x → p x = false) → l[k]? = some a → p a = true → idxQ p l = (k : Int)) := Lib.hid (fun k a => idxQ_yes)
  have HN : Hid ((∀ (j : Nat) (x : Cf), l[j]? = some x → p x = false) → idxQ p l = -1) := Lib.hid idxQ_no
  have HL := Lib.hid hL
  clear hf hL
  generalize idxQ p l = r at *
  go_enter Tryz.func89, Tryz.ntmps89
  go_wp2
  go_loopw [8] (fun vi wr => ∃ k : Nat, k ≤ l.length ∧ vi = .int .i64 k ∧ Hid (∀ (j : Nat) (x : Cf), j < k → l[j]? = some x → p x = false) ∧ Below w.heap.size w wr) (fun vi _ => l.length - (intOf vi).toNat)
  case atStart => exact ⟨0, Nat.zero_le _, rfl, Lib.hid (fun j x hj => absurd hj (Nat.not_lt_zero _)), Below.refl _ _⟩
  case round =>
    obtain ⟨k, hk, rfl, HK, hb⟩ := hrel
    by_cases hlt : k < l.length
    · obtain ⟨a, hka⟩ : ∃ a, l[k]? = some a := ⟨_, List.getElem?_eq_getElem hlt⟩
      obtain ⟨b, off, e1, hgl, ha⟩ := row_get (HL.out.more hb) hka
      cases e1
      have i2 : (k : Int) < (l.length : Int) := by omega
      have z0 := ha 0 _ rfl
      have z1 := ha 1 _ rfl
      rw [Nat.add_zero] at z0
      have hc := HF.out a wr (List.mem_of_getElem? hka) hb
      clear ha hgl
      cases hp : p a <;> rw [hp] at hc
      · have HP := Lib.hid hp
        have HA := Lib.hid hka
        clear hp hka
        go_wp2_with (refine hc.mono ?_; rintro e w' ⟨rfl, hb'⟩)
        go_roundw
        case rel =>
          refine ⟨k + 1, by omega, by go_num, Lib.hid (fun j x hj hx => ?_), hb.trans (hb'.mono hb.size)⟩
          by_cases hjk : j = k
          · subst hjk
            rw [HA.out] at hx
            cases hx
            exact HP.out
          · exact HK.out j x (by omega) hx
        case measure => simp [intOf]; omega
      · have HR := Lib.hid (HI.out k a HK.out hka hp)
        clear hp hka
        go_wp2_with (refine hc.mono ?_; rintro e w' ⟨rfl, hb'⟩)
        go_ret
        exact ⟨by rw [HR.out]; rfl, hb.trans (hb'.mono hb.size)⟩
    · have HR := Lib.hid (HN.out (fun j x hx => HK.out j x (by have := (List.getElem?_eq_some_iff.1 hx).1; omega) hx))
      go_wp2
      go_ret
      exact ⟨by rw [HR.out]; rfl, hb⟩
set_option maxHeartbeats 400000 in
theorem codec_any (a : Cl) (s : ByteArray) (B : Nat) (W : World) (z : W.cell? ⟨B, 0, none⟩ = some (.string s)) :
    Calls Tryz.prog 110 #[aggCl a, .pointer (some ⟨B, 0, none⟩)] W fun e w' => e = .returned (.bool (eqS a.code s)) ∧ Below W.heap.size W w' := by
  have hlt := World.block_lt_of_cell? _ _ z
  have z' := (Below.cell (bel_alloc W (.cells #[.string a.code, .int .i64 a.prot] clT)) (p := ⟨B, 0, none⟩) hlt).trans z
  go_enter Tryz.func110, Tryz.ntmps110
  go_wp2
  go_ret
  exact ⟨rfl, bel_alloc _ _⟩
set_option maxHeartbeats 400000 in
theorem equipc_any (a : Cf) (s : ByteArray) (B : Nat) (W : World) (z : W.cell? ⟨B, 0, none⟩ = some (.string s)) :
    Calls Tryz.prog 90 #[aggCf a, .pointer (some ⟨B, 0, none⟩)] W fun e w' => e = .returned (.bool (eqS a.equip s)) ∧ Below W.heap.size W w' := by
  have hlt := World.block_lt_of_cell? _ _ z
  have z' := (Below.cell (bel_alloc W (.cells #[.string a.equip, .slice a.A a.l.length a.c] cfT)) (p := ⟨B, 0, none⟩) hlt).trans z
  go_enter Tryz.func90, Tryz.ntmps90
  go_wp2
  go_ret
  exact ⟨rfl, bel_alloc _ _⟩
theorem eg_place : ∀ args w, (callFunc 110 args).run Tryz.prog w = .ok (.enter 110 args) w := enters_of Tryz.func110 (by kernel_rfl) rfl
theorem eg_find : ∀ args w, (callFunc 90 args).run Tryz.prog w = .ok (.enter 90 args) w := enters_of Tryz.func90 (by kernel_rfl) rfl

/-! ### the place of a class -/
def codeQ (s : ByteArray) (x : Cl) : Bool := eqS x.code s
def plF : List Cb → ByteArray → Option (Int × Int)
  | [], _ => none
  | b :: r, s => if 0 ≤ idxQ (codeQ s) b.l then some (0, idxQ (codeQ s) b.l) else (plF r s).map fun p => (p.1 + 1, p.2)
def plI (l : List Cb) (s : ByteArray) : Int := ((plF l s).getD (0, 0)).1
def plK (l : List Cb) (s : ByteArray) : Int := ((plF l s).getD (0, 0)).2
def plB (l : List Cb) (s : ByteArray) : Bool := (plF l s).isSome
theorem plF_no : ∀ (l : List Cb) (s : ByteArray), (∀ (j : Nat) (b : Cb), l[j]? = some b → idxQ (codeQ s) b.l < 0) → plF l s = none
  | [], s, h => rfl
  | b :: r, s, h => by
    have h0 := h 0 b rfl
    rw [plF, if_neg (by omega), plF_no r s (fun j x hx => h (j + 1) x (by simpa using hx))]
    rfl
theorem plF_yes : ∀ (l : List Cb) (s : ByteArray) (i : Nat) (b : Cb), (∀ (j : Nat) (b : Cb), j < i → l[j]? = some b → idxQ (codeQ s) b.l < 0) → l[i]? = some b → 0 ≤ idxQ (codeQ s) b.l → plF l s = some ((i : Int), idxQ (codeQ s) b.l)
  | [], s, i, b, h, hb, h0 => by simp at hb
  | x :: r, s, 0, b, h, hb, h0 => by
    simp at hb
    subst hb
    rw [plF, if_pos h0]
    rfl
  | x :: r, s, i + 1, b, h, hb, h0 => by
    have hx := h 0 x (by omega) rfl
    rw [plF, if_neg (by omega), plF_yes r s i b (fun j y hj hy => h (j + 1) y (by omega) (by simpa using hy)) (by simpa using hb) h0]
    simp
theorem pl_no {l : List Cb} {s : ByteArray} (h : plF l s = none) : plI l s = 0 ∧ plK l s = 0 ∧ plB l s = false := by
  unfold plI plK plB; rw [h]; exact ⟨rfl, rfl, rfl⟩
theorem pl_yes {l : List Cb} {s : ByteArray} {i k : Int} (h : plF l s = some (i, k)) : plI l s = i ∧ plK l s = k ∧ plB l s = true := by
  unfold plI plK plB; rw [h]; exact ⟨rfl, rfl, rfl⟩

set_option maxRecDepth 100000 in
set_option maxHeartbeats 8000000 in
theorem place_any (eq : ByteArray) (A : Option Addr) (c : Nat) (l : List Cb) (s : ByteArray) (w : World) (hv : CbL w (.slice A l.length c) l) (hn : l.length ≤ 8) (hok : ∀ b ∈ l, b.l.length ≤ 30) :
    Calls Tryz.prog 72 #[.agg #[.string eq, .slice A l.length c], .string s] w fun e w' => e = .returned (.tuple #[.int .i64 (plI l s), .int .i64 (plK l s), .bool (plB l s)]) ∧ Below w.heap.size w w' := by
  have hbA := bel_alloc w (.cells #[.string eq, .slice A l.length c] cfT)
  have hbB := bel_alloc (w.alloc (.cells #[.string eq, .slice A l.length c] cfT)) (.cells #[.string s] 9)
  have q0 := bel_cell hbB ((cells_new w #[.string eq, .slice A l.length c] cfT 0).trans (show _ = some (Value.string eq) from rfl))
  have q1 := bel_cell hbB ((cells_new w #[.string eq, .slice A l.length c] cfT 1).trans (show _ = some (Value.slice A l.length c) from rfl))
  have r0 := (cells_new (w.alloc (.cells #[.string eq, .slice A l.length c] cfT)) #[.string s] 9 0).trans (show _ = some (Value.string s) from rfl)
  rw [World.size_alloc] at r0
  have hb0 := hbA.trans (hbB.mono hbA.size)
  obtain ⟨Z, hZ⟩ : ∃ Z, Z = w.heap.size := ⟨_, rfl⟩
  rw [← hZ] at q0 q1 r0
  have HV := Lib.hid hv
  have HOK := Lib.hid hok
  have HNo : Hid ((∀ (j : Nat) (b : Cb), l[j]? = some b → idxQ (codeQ s) b.l < 0) → plI l s = 0 ∧ plK l s = 0 ∧ plB l s = false) := Lib.hid (fun h => pl_no (plF_no l s h))
  have HYes : Hid (∀ (i : Nat) (b : Cb), (∀ (j : Nat) (b : Cb), j < i → l[j]? = some b → idxQ (codeQ s) b.l < 0) → l[i]? = some b → 0 ≤ idxQ (codeQ s) b.l → plI l s = (i : Int) ∧ plK l s = idxQ (codeQ s) b.l ∧ plB l s = true) := Lib.hid (fun i b h1 h2 h3 => pl_yes (plF_yes l s i b h1 h2 h3))
  clear hv hok hbA hbB
  generalize plI l s = rI at *
  generalize plK l s = rK at *
  generalize plB l s = rB at *
  go_enter Tryz.func72, Tryz.ntmps72
  go_upto_region 1 with fail
  rw [← hZ]
  have HB5 := Lib.hid hb0
  generalize (w.alloc (.cells #[.string eq, .slice A l.length c] cfT)).alloc (.cells #[.string s] 9) = w5 at *
  clear hb0 hZ
  have HV5 : Hid (∀ W, SW w5 W → CbL W (.slice A l.length c) l) := Lib.hid (fun W h => HV.out.more (HB5.out.trans (Below.mono h HB5.out.size)))
  have R0 := Lib.hid (fun W (h : SW w5 W) => bel_get r0 _ h)
  clear q0 r0
  go_wp2
  clear q1
  go_loopw [13] (fun vi wr => ∃ i : Nat, i ≤ l.length ∧ vi = .int .i64 i ∧ Hid (∀ (j : Nat) (b : Cb), j < i → l[j]? = some b → idxQ (codeQ s) b.l < 0) ∧ SW w5 wr) (fun vi _ => l.length - (intOf vi).toNat)
  case atStart => exact ⟨0, Nat.zero_le _, rfl, Lib.hid (fun j x hj => absurd hj (Nat.not_lt_zero _)), Below.refl _ _⟩
  case round =>
    obtain ⟨i, hi, rfl, HK, hS⟩ := hrel
    by_cases hlt : i < l.length
    · obtain ⟨b, hb⟩ : ∃ b, l[i]? = some b := ⟨_, List.getElem?_eq_getElem hlt⟩
      obtain ⟨b1, o1, e1, hgl, hc⟩ := row_get (HV5.out _ hS).1 hb
      cases e1
      have i2 : (i : Int) < (l.length : Int) := by omega
      have z0 := hc 0 _ rfl
      have z1 := hc 1 _ rfl
      have z2 := hc 2 _ rfl
      have z3 := hc 3 _ rfl
      rw [Nat.add_zero] at z0
      have hbX := bel_alloc wr (.cells #[.string b.name, .int .i64 b.seats, .int .i64 b.over, .slice b.A b.l.length b.c] cbT)
      have HS := Lib.hid hS
      have hSX : SW w5 (wr.alloc (.cells #[.string b.name, .int .i64 b.seats, .int .i64 b.over, .slice b.A b.l.length b.c] cbT)) := Below.trans hS (Below.mono hbX hS.size)
      have HSX := Lib.hid hSX
      have hrow := (HV5.out _ hSX).2 b (List.mem_of_getElem? hb)
      have KI := Lib.hid (idxCl_any _ #[.pointer (some ⟨Z + 1, 0, none⟩)] b.A b.c b.l (codeQ s) _ eg_place (by have := HOK.out b (List.mem_of_getElem? hb); omega) hrow (fun a W ha hW => codec_any a s (Z + 1) W (R0.out _ (Below.trans hSX (Below.mono hW hSX.size)))))
      have HB := Lib.hid hb
      clear hc hgl hrow hSX hbX hb hS
      by_cases h0 : 0 ≤ idxQ (codeQ s) b.l
      · obtain ⟨e1, e2, e3⟩ := HYes.out i b HK.out HB.out h0
        have E1 := Lib.hid e1
        have E2 := Lib.hid e2
        have E3 := Lib.hid e3
        clear e1 e2 e3
        generalize idxQ (codeQ s) b.l = q at *
        go_wp2_with (go_at_call 109; refine KI.out.mono ?_; rintro e w' ⟨rfl, hb'⟩)
        refine bodyPost_ret (results_tmp3 rfl _ _ _) rfl ⟨?_, HB5.out.trans (Below.mono (Below.trans HSX.out (Below.mono hb' HSX.out.size)) HB5.out.size)⟩
        rw [E1.out, E2.out, E3.out]; rfl
      · have HK2 : Hid (∀ (j : Nat) (b : Cb), j < i + 1 → l[j]? = some b → idxQ (codeQ s) b.l < 0) := Lib.hid (fun j b' hj hb' => by
          by_cases hji : j = i
          · subst hji
            rw [HB.out] at hb'
            cases hb'
            omega
          · exact HK.out j b' (by omega) hb')
        generalize idxQ (codeQ s) b.l = q at *
        go_wp2_with (go_at_call 109; refine KI.out.mono ?_; rintro e w' ⟨rfl, hb'⟩)
        go_roundw
        case rel => exact ⟨i + 1, by omega, by go_num, HK2, Below.trans HSX.out (Below.mono hb' HSX.out.size)⟩
        case measure => simp [intOf]; omega
    · obtain ⟨e1, e2, e3⟩ := HNo.out (fun j b hb => HK.out j b (by have := (List.getElem?_eq_some_iff.1 hb).1; omega) hb)
      have E1 := Lib.hid e1
      have E2 := Lib.hid e2
      have E3 := Lib.hid e3
      clear e1 e2 e3
      go_wp2
      refine bodyPost_ret (results_tmp3 rfl _ _ _) rfl ⟨?_, HB5.out.trans (Below.mono hS HB5.out.size)⟩
      rw [E1.out, E2.out, E3.out]; rfl

set_option maxRecDepth 100000 in
set_option maxHeartbeats 8000000 in
theorem rplace12_any (eq : ByteArray) (A : Option Addr) (c : Nat) (l : List Cb) (s : ByteArray) (w : World) (hv : CbL w (.slice A l.length c) l) (hn : l.length ≤ 8) (hok : ∀ b ∈ l, b.l.length ≤ 30) :
    Calls Tryz.prog 97 #[.agg #[.string eq, .slice A l.length c], .string s] w fun e w' => e = .returned (.tuple #[.int .i64 (plI l s), .int .i64 (plK l s), .bool (plB l s)]) ∧ Below w.heap.size w w' := by
  have hbA := bel_alloc w (.cells #[.string eq, .slice A l.length c] cfT)
  have q1 := (cells_new w #[.string eq, .slice A l.length c] cfT 1).trans (show _ = some (Value.slice A l.length c) from rfl)
  obtain ⟨Z, hZ⟩ : ∃ Z, Z = w.heap.size := ⟨_, rfl⟩
  rw [← hZ] at q1
  have HV := Lib.hid hv
  have HOK := Lib.hid hok
  have HNo : Hid ((∀ (j : Nat) (b : Cb), l[j]? = some b → idxQ (codeQ s) b.l < 0) → plI l s = 0 ∧ plK l s = 0 ∧ plB l s = false) := Lib.hid (fun h => pl_no (plF_no l s h))
  have HYes : Hid (∀ (i : Nat) (b : Cb), (∀ (j : Nat) (b : Cb), j < i → l[j]? = some b → idxQ (codeQ s) b.l < 0) → l[i]? = some b → 0 ≤ idxQ (codeQ s) b.l → plI l s = (i : Int) ∧ plK l s = idxQ (codeQ s) b.l ∧ plB l s = true) := Lib.hid (fun i b h1 h2 h3 => pl_yes (plF_yes l s i b h1 h2 h3))
  clear hv hok
  generalize plI l s = rI at *
  generalize plK l s = rK at *
  generalize plB l s = rB at *
  go_enter Tryz.func97, Tryz.ntmps97
  go_upto_region 1 with fail
  rw [← hZ]
  have HB5 := Lib.hid hbA
  generalize w.alloc (.cells #[.string eq, .slice A l.length c] cfT) = w5 at *
  clear hbA hZ
  have HV5 : Hid (∀ W, SW w5 W → CbL W (.slice A l.length c) l) := Lib.hid (fun W h => HV.out.more (HB5.out.trans (Below.mono h HB5.out.size)))
  have Q1 := Lib.hid (fun W (h : SW w5 W) => bel_get q1 _ h)
  clear q1
  go_wp2
  go_loopg [7] l.length (fun kx v7 wr => ∃ i : Nat, v7 = .int .i64 i ∧ i + kx = l.length ∧ Hid (∀ (j : Nat) (b : Cb), j < i → l[j]? = some b → idxQ (codeQ s) b.l < 0) ∧ SW w5 wr)
  case atStart => exact ⟨0, rfl, by omega, Lib.hid (fun j x hj => absurd hj (Nat.not_lt_zero _)), Below.refl _ _⟩
  case round =>
    obtain ⟨i, rfl, hix, HK, hS⟩ := hrel
    have HIX := Lib.hid hix
    have c1 := Q1.out _ hS
    have hi8 : i ≤ 8 := by omega
    by_cases hlt : i < l.length
    · obtain ⟨b, hb⟩ : ∃ b, l[i]? = some b := ⟨_, List.getElem?_eq_getElem hlt⟩
      have i2 : (i : Int) < (l.length : Int) := by omega
      have HB := Lib.hid hb
      have hlen := HOK.out b (List.mem_of_getElem? hb)
      obtain ⟨nb, hnb⟩ : ∃ nb, nb = b.l.length := ⟨_, rfl⟩
      have HNB := Lib.hid hnb
      rw [← hnb] at hlen
      have HSR := Lib.hid hS
      clear hnb hb hix hS
      go_wp2
      go_loopg [8] nb (fun kx v8 wq => ∃ k : Nat, v8 = .int .i64 k ∧ k + kx = nb ∧ Hid (∀ (j : Nat) (x : Cl), j < k → b.l[j]? = some x → codeQ s x = false) ∧ SW w5 wq)
      case atStart => exact ⟨0, rfl, by omega, Lib.hid (fun j x hj => absurd hj (Nat.not_lt_zero _)), HSR.out⟩
      case round =>
        obtain ⟨k, rfl, hkx, HC, hS5⟩ := hrel
        have HKX := Lib.hid hkx
        have p1 := Q1.out _ hS5
        obtain ⟨b3, o3, e3, hb3, hc3⟩ := row_get (HV5.out _ hS5).1 HB.out
        cases e3
        have p3 := hc3 3 _ rfl
        have hk30 : k ≤ 30 := by omega
        have HS5 := Lib.hid hS5
        by_cases hlk : k < nb
        · obtain ⟨y, hy⟩ : ∃ y, b.l[k]? = some y := ⟨_, List.getElem?_eq_getElem (by have := HNB.out; omega)⟩
          obtain ⟨b4, o4, e4, hb4, hc4⟩ := row_get ((HV5.out _ hS5).2 b (List.mem_of_getElem? HB.out)) hy
          rw [e4] at p3
          rw [← HNB.out] at p3
          have p0 := hc4 0 _ rfl
          rw [Nat.add_zero] at p0
          have i1 : (k : Int) < (nb : Int) := by omega
          have HY := Lib.hid hy
          clear hc3 e4 hb4 hc4 hb3 hy hkx hS5
          cases he : (y.code.toList == s.toList) with
          | true =>
            have hq := idxQ_yes (p := codeQ s) HC.out HY.out he
            obtain ⟨e1, e2, e3⟩ := HYes.out i b HK.out HB.out (by rw [hq]; omega)
            have E1 := Lib.hid e1
            have E2 : Hid (rK = (k : Int)) := Lib.hid (by rw [e2, hq])
            have E3 := Lib.hid e3
            clear e1 e2 e3 hq
            go_wp2
            refine bodyPost_ret (results_tmp3 rfl _ _ _) rfl ⟨?_, HB5.out.trans (Below.mono HS5.out HB5.out.size)⟩
            rw [E1.out, E2.out, E3.out]; rfl
          | false =>
            have HC2 : Hid (∀ (j : Nat) (x : Cl), j < k + 1 → b.l[j]? = some x → codeQ s x = false) := Lib.hid (fun j x hj hx => by
              by_cases hjk : j = k
              · subst hjk
                rw [HY.out] at hx
                cases hx
                exact he
              · exact HC.out j x (by omega) hx)
            go_wp2
            go_roundg (nb - (k + 1))
            case measure => have := HKX.out; omega
            case rel => exact ⟨k + 1, by go_num, by have := HKX.out; omega, HC2, HS5.out⟩
        · have i1 : ¬ (k : Int) < (nb : Int) := by omega
          rw [← HNB.out] at p3
          have HK2 : Hid (∀ (j : Nat) (b : Cb), j < i + 1 → l[j]? = some b → idxQ (codeQ s) b.l < 0) := Lib.hid (fun j b' hj hb' => by
            by_cases hji : j = i
            · subst hji
              rw [HB.out] at hb'
              cases hb'
              rw [idxQ_no (p := codeQ s) (fun m x hx => HC.out m x (by have := (List.getElem?_eq_some_iff.1 hx).1; have := HNB.out; omega) hx)]
              omega
            · exact HK.out j b' (by omega) hb')
          go_wp2
          go_roundg (l.length - (i + 1))
          case measure => have := HIX.out; omega
          case rel => exact ⟨i + 1, by go_num, by omega, HK2, hS5⟩
    · obtain ⟨e1, e2, e3⟩ := HNo.out (fun j b hb => HK.out j b (by have := (List.getElem?_eq_some_iff.1 hb).1; omega) hb)
      have E1 := Lib.hid e1
      have E2 := Lib.hid e2
      have E3 := Lib.hid e3
      have i2 : ¬ (i : Int) < (l.length : Int) := by omega
      clear e1 e2 e3
      go_wp2
      refine bodyPost_ret (results_tmp3 rfl _ _ _) rfl ⟨?_, HB5.out.trans (Below.mono hS HB5.out.size)⟩
      rw [E1.out, E2.out, E3.out]; rfl
end Go.Proofs.YtkghpapbifijcaaGreatDoor
