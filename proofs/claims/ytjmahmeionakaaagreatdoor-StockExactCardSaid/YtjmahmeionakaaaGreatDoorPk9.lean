/- Words and walks that the laws below ask: CabI, CabJ, CabK, CabL. -/
import Derived.Deep.LoopGhost
import Derived.BigQuiet
import Derived.Deep.CutRange
import Derived.Deep.CutBlock
import Derived.Deep.OwnRows
import Derived.Deep.RegionWith
import Derived.Test.YtjmahmeionakaaaGreatDoorPk3
import Derived.Test.YtjmahmeionakaaaGreatDoorPk7
/- slices.IndexFunc at classes and at configurations; the place of a class. -/
namespace Go.Proofs.YtjmahmeionakaaaGreatDoor
open Go.RowKit Go.Shelf
set_option linter.unusedSimpArgs false
set_option linter.unusedVariables false

/-- the first place of which p says true -/
def idxQ {α : Type} (p : α → Bool) : List α → Int
  | [] => -1
  | a :: r => if p a = true then 0 else if idxQ p r < 0 then -1 else idxQ p r + 1
theorem idxQ_find {α : Type} (p : α → Bool) : ∀ l : List α, (idxQ p l = -1 ∧ l.find? p = none ∧ ∀ (j : Nat) (x : α), l[j]? = some x → p x = false) ∨ ∃ (k : Nat) (a : α), idxQ p l = (k : Int) ∧ l[k]? = some a ∧ l.find? p = some a ∧ k < l.length ∧ p a = true ∧ ∀ (j : Nat) (x : α), j < k → l[j]? = some x → p x = false
  | [] => .inl ⟨rfl, rfl, fun j x h => by simp at h⟩
  | a :: r => by
    cases h : p a
    · rcases idxQ_find p r with ⟨h1, h2, h3⟩ | ⟨k, x, h1, h2, h3, h4, h5, h6⟩
      · left
        refine ⟨by simp [idxQ, h, h1], by simp [List.find?_cons, h, h2], fun j x hx => ?_⟩
        cases j with
        | zero => simp at hx; subst hx; exact h
        | succ j => exact h3 j x (by simpa using hx)
      · right
        refine ⟨k + 1, x, ?_, by simpa using h2, by simp [List.find?_cons, h, h3], by simpa using h4, h5, fun j y hj hy => ?_⟩
        · simp only [idxQ, h, h1]
          rw [if_neg (by simp), if_neg (by omega)]
          omega
        · cases j with
          | zero => simp at hy; subst hy; exact h
          | succ j => exact h6 j y (by omega) (by simpa using hy)
    · right
      exact ⟨0, a, by simp [idxQ, h], by simp, by simp [List.find?_cons, h], by simp, h, fun j y hj => absurd hj (Nat.not_lt_zero _)⟩
theorem idxQ_yes {α : Type} {p : α → Bool} {l : List α} {k : Nat} {a : α} (h : ∀ (j : Nat) (x : α), j < k → l[j]? = some x → p x = false) (hk : l[k]? = some a) (hp : p a = true) : idxQ p l = (k : Int) := by
  rcases idxQ_find p l with ⟨_, _, h3⟩ | ⟨m, b, h1, h2, _, _, h5, h6⟩
  · rw [h3 k a hk] at hp; cases hp
  · have : m = k := by
      rcases Nat.lt_trichotomy m k with hlt | he | hlt
      · rw [h m b hlt h2] at h5; cases h5
      · exact he
      · rw [h6 k a hlt hk] at hp; cases hp
    rw [h1, this]
theorem idxQ_no {α : Type} {p : α → Bool} {l : List α} (h : ∀ (j : Nat) (x : α), l[j]? = some x → p x = false) : idxQ p l = -1 := by
  rcases idxQ_find p l with ⟨h1, _, _⟩ | ⟨m, b, _, h2, _, _, h5, _⟩
  · exact h1
  · rw [h m b h2] at h5; cases h5

set_option maxHeartbeats 4000000 in
set_option maxRecDepth 100000 in
theorem idxCl_any (g : Nat) (cb : Array Value) (A : Option Addr) (c : Nat) (l : List Cl) (p : Cl → Bool) (w : World) (eg : ∀ args w, (callFunc g args).run Tryz.prog w = .ok (.enter g args) w) (hl : l.length ≤ 40) (hL : RowL 2 encCl w (.slice A l.length c) l)
    (hf : ∀ (a : Cl) (W : World), a ∈ l → Below w.heap.size w W → Calls Tryz.prog g (#[aggCl a] ++ cb) W fun e w' => e = .returned (.bool (p a)) ∧ Below W.heap.size W w') :
    Calls Tryz.prog 109 #[.slice A l.length c, .func (.func g) #[] cb] w fun e w' => e = .returned (.int .i64 (idxQ p l)) ∧ Below w.heap.size w w' := by
  have HF := Lib.hid hf
  have HI : Hid (∀ (k : Nat) (a : Cl), (∀ (j : Nat) (x : Cl), j < k → l[j]? = some x → p x = false) → l[k]? = some a → p a = true → idxQ p l = (k : Int)) := Lib.hid (fun k a => idxQ_yes)
  have HN : Hid ((∀ (j : Nat) (x : Cl), l[j]? = some x → p x = false) → idxQ p l = -1) := Lib.hid idxQ_no
  have HL := Lib.hid hL
  clear hf hL
  generalize idxQ p l = r at *
  go_enter Tryz.func109, Tryz.ntmps109
  go_wp2
  go_loopw [8] (fun vi wr => ∃ k : Nat, k ≤ l.length ∧ vi = .int .i64 k ∧ Hid (∀ (j : Nat) (x : Cl), j < k → l[j]? = some x → p x = false) ∧ Below w.heap.size w wr) (fun vi _ => l.length - (intOf vi).toNat)
  case atStart => exact ⟨0, Nat.zero_le _, rfl, Lib.hid (fun j x hj => absurd hj (Nat.not_lt_zero _)), Below.refl _ _⟩
  case round =>
    obtain ⟨k, hk, rfl, HK, hb⟩ := hrel
    by_cases hlt : k < l.length
    · obtain ⟨a, hka⟩ : ∃ a, l[k]? = some a := ⟨_, List.getElem?_eq_getElem hlt⟩
      obtain ⟨b, off, e1, hgl, ha⟩ := row_get (HL.out.more hb) hka
      cases e1
      have i2 : (k : Int) < (l.length : Int) := by omega
      have z0 := ha 0 _ rfl
      have z1 := ha 1 _ rfl
      rw [Nat.add_zero] at z0
      have hc := HF.out a wr (List.mem_of_getElem? hka) hb
      clear ha hgl
      cases hp : p a <;> rw [hp] at hc
      · have HP := Lib.hid hp
        have HA := Lib.hid hka
        clear hp hka
        go_wp2_with (refine hc.mono ?_; rintro e w' ⟨rfl, hb'⟩)
        go_roundw
        case rel =>
          refine ⟨k + 1, by omega, by go_num, Lib.hid (fun j x hj hx => ?_), hb.trans (hb'.mono hb.size)⟩
          by_cases hjk : j = k
          · subst hjk
            rw [HA.out] at hx
            cases hx
            exact HP.out
          · exact HK.out j x (by omega) hx
        case measure => simp [intOf]; omega
      · have HR := Lib.hid (HI.out k a HK.out hka hp)
        clear hp hka
        go_wp2_with (refine hc.mono ?_; rintro e w' ⟨rfl, hb'⟩)
        go_ret
        exact ⟨by rw [HR.out]; rfl, hb.trans (hb'.mono hb.size)⟩
    · have HR := Lib.hid (HN.out (fun j x hx => HK.out j x (by have := (List.getElem?_eq_some_iff.1 hx).1; omega) hx))
      go_wp2
      go_ret
      exact ⟨by rw [HR.out]; rfl, hb⟩

set_option maxHeartbeats 4000000 in
set_option maxRecDepth 100000 in
theorem idxCf_any (g : Nat) (cb : Array Value) (A : Option Addr) (c : Nat) (l : List Cf) (p : Cf → Bool) (w : World) (eg : ∀ args w, (callFunc g args).run Tryz.prog w = .ok (.enter g args) w) (hl : l.length ≤ 40) (hL : RowL 2 encCf w (.slice A l.length c) l)
    (hf : ∀ (a : Cf) (W : World), a ∈ l → Below w.heap.size w W → Calls Tryz.prog g (#[aggCf a] ++ cb) W fun e w' => e = .returned (.bool (p a)) ∧ Below W.heap.size W w') :
    Calls Tryz.prog 89 #[.slice A l.length c, .func (.func g) #[] cb] w fun e w' => e = .returned (.int .i64 (idxQ p l)) ∧ Below w.heap.size w w' := by
  have HF := Lib.hid hf
  have HI : Hid (∀ (k : Nat) (a : Cf), (∀ (j : Nat) (x : Cf), j < k → l[j]? = some x → p x = false) → l[k]? = some a → p a = true → idxQ p l = (k : Int)) := Lib.hid (fun k a => idxQ_yes)
  have HN : Hid ((∀ (j : Nat) (x : Cf), l[j]? = some x → p x = false) → idxQ p l = -1) := Lib.hid idxQ_no
  have HL := Lib.hid hL
  clear hf hL
  generalize idxQ p l = r at *
  go_enter Tryz.func89, Tryz.ntmps89
  go_wp2
  go_loopw [8] (fun vi wr => ∃ k : Nat, k ≤ l.length ∧ vi = .int .i64 k ∧ Hid (∀ (j : Nat) (x : Cf), j < k → l[j]? = some x → p x = false) ∧ Below w.heap.size w wr) (fun vi _ => l.length - (intOf vi).toNat)
  case atStart => exact ⟨0, Nat.zero_le _, rfl, Lib.hid (fun j x hj => absurd hj (Nat.not_lt_zero _)), Below.refl _ _⟩
  case round =>
    obtain ⟨k, hk, rfl, HK, hb⟩ := hrel
    by_cases hlt : k < l.length
    · obtain ⟨a, hka⟩ : ∃ a, l[k]? = some a := ⟨_, List.getElem?_eq_getElem hlt⟩
      obtain ⟨b, off, e1, hgl, ha⟩ := row_get (HL.out.more hb) hka
      cases e1
      have i2 : (k : Int) < (l.length : Int) := by omega
      have z0 := ha 0 _ rfl
      have z1 := ha 1 _ rfl
      rw [Nat.add_zero] at z0
      have hc := HF.out a wr (List.mem_of_getElem? hka) hb
      clear ha hgl
      cases hp : p a <;> rw [hp] at hc
      · have HP := Lib.hid hp
        have HA := Lib.hid hka
        clear hp hka
        go_wp2_with (refine hc.mono ?_; rintro e w' ⟨rfl, hb'⟩)
        go_roundw
        case rel =>
          refine ⟨k + 1, by omega, by go_num, Lib.hid (fun j x hj hx => ?_), hb.trans (hb'.mono hb.size)⟩
          by_cases hjk : j = k
          · subst hjk
            rw [HA.out] at hx
            cases hx
            exact HP.out
          · exact HK.out j x (by omega) hx
        case measure => simp [intOf]; omega
      · have HR := Lib.hid (HI.out k a HK.out hka hp)
        clear hp hka
        go_wp2_with (refine hc.mono ?_; rintro e w' ⟨rfl, hb'⟩)
        go_ret
        exact ⟨by rw [HR.out]; rfl, hb.trans (hb'.mono hb.size)⟩
    · have HR := Lib.hid (HN.out (fun j x hx => HK.out j x (by have := (List.getElem?_eq_some_iff.1 hx).1; omega) hx))
      go_wp2
      go_ret
      exact ⟨by rw [HR.out]; rfl, hb⟩
set_option maxHeartbeats 400000 in
theorem codec_any (a : Cl) (s : ByteArray) (B : Nat) (W : World) (z : W.cell? ⟨B, 0, none⟩ = some (.string s)) :
    Calls Tryz.prog 110 #[aggCl a, .pointer (some ⟨B, 0, none⟩)] W fun e w' => e = .returned (.bool (eqS a.code s)) ∧ Below W.heap.size W w' := by
  have hlt := World.block_lt_of_cell? _ _ z
  have z' := (Below.cell (bel_alloc W (.cells #[.string a.code, .int .i64 a.prot] clT)) (p := ⟨B, 0, none⟩) hlt).trans z
  go_enter Tryz.func110, Tryz.ntmps110
  go_wp2
  go_ret
  exact ⟨rfl, bel_alloc _ _⟩
set_option maxHeartbeats 400000 in
theorem equipc_any (a : Cf) (s : ByteArray) (B : Nat) (W : World) (z : W.cell? ⟨B, 0, none⟩ = some (.string s)) :
    Calls Tryz.prog 90 #[aggCf a, .pointer (some ⟨B, 0, none⟩)] W fun e w' => e = .returned (.bool (eqS a.equip s)) ∧ Below W.heap.size W w' := by
  have hlt := World.block_lt_of_cell? _ _ z
  have z' := (Below.cell (bel_alloc W (.cells #[.string a.equip, .slice a.A a.l.length a.c] cfT)) (p := ⟨B, 0, none⟩) hlt).trans z
  go_enter Tryz.func90, Tryz.ntmps90
  go_wp2
  go_ret
  exact ⟨rfl, bel_alloc _ _⟩
theorem eg_place : ∀ args w, (callFunc 110 args).run Tryz.prog w = .ok (.enter 110 args) w := enters_of Tryz.func110 (by kernel_rfl) rfl
theorem eg_find : ∀ args w, (callFunc 90 args).run Tryz.prog w = .ok (.enter 90 args) w := enters_of Tryz.func90 (by kernel_rfl) rfl

/-! ### the place of a class -/
def codeQ (s : ByteArray) (x : Cl) : Bool := eqS x.code s
def plF : List Cb → ByteArray → Option (Int × Int)
  | [], _ => none
  | b :: r, s => if 0 ≤ idxQ (codeQ s) b.l then some (0, idxQ (codeQ s) b.l) else (plF r s).map fun p => (p.1 + 1, p.2)
def plI (l : List Cb) (s : ByteArray) : Int := ((plF l s).getD (0, 0)).1
def plK (l : List Cb) (s : ByteArray) : Int := ((plF l s).getD (0, 0)).2
def plB (l : List Cb) (s : ByteArray) : Bool := (plF l s).isSome
theorem plF_no : ∀ (l : List Cb) (s : ByteArray), (∀ (j : Nat) (b : Cb), l[j]? = some b → idxQ (codeQ s) b.l < 0) → plF l s = none
  | [], s, h => rfl
  | b :: r, s, h => by
    have h0 := h 0 b rfl
    rw [plF, if_neg (by omega), plF_no r s (fun j x hx => h (j + 1) x (by simpa using hx))]
    rfl
theorem plF_yes : ∀ (l : List Cb) (s : ByteArray) (i : Nat) (b : Cb), (∀ (j : Nat) (b : Cb), j < i → l[j]? = some b → idxQ (codeQ s) b.l < 0) → l[i]? = some b → 0 ≤ idxQ (codeQ s) b.l → plF l s = some ((i : Int), idxQ (codeQ s) b.l)
  | [], s, i, b, h, hb, h0 => by simp at hb
  | x :: r, s, 0, b, h, hb, h0 => by
    simp at hb
    subst hb
    rw [plF, if_pos h0]
    rfl
  | x :: r, s, i + 1, b, h, hb, h0 => by
    have hx := h 0 x (by omega) rfl
    rw [plF, if_neg (by omega), plF_yes r s i b (fun j y hj hy => h (j + 1) y (by omega) (by simpa using hy)) (by simpa using hb) h0]
    simp
theorem pl_no {l : List Cb} {s : ByteArray} (h : plF l s = none) : plI l s = 0 ∧ plK l s = 0 ∧ plB l s = false := by
  unfold plI plK plB; rw [h]; exact ⟨rfl, rfl, rfl⟩
theorem pl_yes {l : List Cb} {s : ByteArray} {i k : Int} (h : plF l s = some (i, k)) : plI l s = i ∧ plK l s = k ∧ plB l s = true := by
  unfold plI plK plB; rw [h]; exact ⟨rfl, rfl, rfl⟩

set_option maxRecDepth 100000 in
set_option maxHeartbeats 8000000 in
theorem place_any (eq : ByteArray) (A : Option Addr) (c : Nat) (l : List Cb) (s : ByteArray) (w : World) (hv : CbL w (.slice A l.length c) l) (hn : l.length ≤ 8) (hok : ∀ b ∈ l, b.l.length ≤ 30) :
    Calls Tryz.prog 72 #[.agg #[.string eq, .slice A l.length c], .string s] w fun e w' => e = .returned (.tuple #[.int .i64 (plI l s), .int .i64 (plK l s), .bool (plB l s)]) ∧ Below w.heap.size w w' := by
  have hbA := bel_alloc w (.cells #[.string eq, .slice A l.length c] cfT)
  have hbB := bel_alloc (w.alloc (.cells #[.string eq, .slice A l.length c] cfT)) (.cells #[.string s] 9)
  have q0 := bel_cell hbB ((cells_new w #[.string eq, .slice A l.length c] cfT 0).trans (show _ = some (Value.string eq) from rfl))
  have q1 := bel_cell hbB ((cells_new w #[.string eq, .slice A l.length c] cfT 1).trans (show _ = some (Value.slice A l.length c) from rfl))
  have r0 := (cells_new (w.alloc (.cells #[.string eq, .slice A l.length c] cfT)) #[.string s] 9 0).trans (show _ = some (Value.string s) from rfl)
  rw [World.size_alloc] at r0
  have hb0 := hbA.trans (hbB.mono hbA.size)
  obtain ⟨Z, hZ⟩ : ∃ Z, Z = w.heap.size := ⟨_, rfl⟩
  rw [← hZ] at q0 q1 r0
  have HV := Lib.hid hv
  have HOK := Lib.hid hok
  have HNo : Hid ((∀ (j : Nat) (b : Cb), l[j]? = some b → idxQ (codeQ s) b.l < 0) → plI l s = 0 ∧ plK l s = 0 ∧ plB l s = false) := Lib.hid (fun h => pl_no (plF_no l s h))
  have HYes : Hid (∀ (i : Nat) (b : Cb), (∀ (j : Nat) (b : Cb), j < i → l[j]? = some b → idxQ (codeQ s) b.l < 0) → l[i]? = some b → 0 ≤ idxQ (codeQ s) b.l → plI l s = (i : Int) ∧ plK l s = idxQ (codeQ s) b.l ∧ plB l s = true) := Lib.hid (fun i b h1 h2 h3 => pl_yes (plF_yes l s i b h1 h2 h3))
  clear hv hok hbA hbB
  generalize plI l s = rI at *
  generalize plK l s = rK at *
  generalize plB l s = rB at *
  go_enter Tryz.func72, Tryz.ntmps72
  go_upto_region 1 with fail
  rw [← hZ]
  have HB5 := Lib.hid hb0
  generalize (w.alloc (.cells #[.string eq, .slice A l.length c] cfT)).alloc (.cells #[.string s] 9) = w5 at *
  clear hb0 hZ
  have HV5 : Hid (∀ W, SW w5 W → CbL W (.slice A l.length c) l) := Lib.hid (fun W h => HV.out.more (HB5.out.trans (Below.mono h HB5.out.size)))
  have R0 := Lib.hid (fun W (h : SW w5 W) => bel_get r0 _ h)
  clear q0 r0
  go_wp2
  clear q1
  go_loopw [13] (fun vi wr => ∃ i : Nat, i ≤ l.length ∧ vi = .int .i64 i ∧ Hid (∀ (j : Nat) (b : Cb), j < i → l[j]? = some b → idxQ (codeQ s) b.l < 0) ∧ SW w5 wr) (fun vi _ => l.length - (intOf vi).toNat)
  case atStart => exact ⟨0, Nat.zero_le _, rfl, Lib.hid (fun j x hj => absurd hj (Nat.not_lt_zero _)), Below.refl _ _⟩
  case round =>
    obtain ⟨i, hi, rfl, HK, hS⟩ := hrel
    by_cases hlt : i < l.length
    · obtain ⟨b, hb⟩ : ∃ b, l[i]? = some b := ⟨_, List.getElem?_eq_getElem hlt⟩
      obtain ⟨b1, o1, e1, hgl, hc⟩ := row_get (HV5.out _ hS).1 hb
      cases e1
      have i2 : (i : Int) < (l.length : Int) := by omega
      have z0 := hc 0 _ rfl
      have z1 := hc 1 _ rfl
      have z2 := hc 2 _ rfl
      have z3 := hc 3 _ rfl
      rw [Nat.add_zero] at z0
      have hbX := bel_alloc wr (.cells #[.string b.name, .int .i64 b.seats, .int .i64 b.over, .slice b.A b.l.length b.c] cbT)
      have HS := Lib.hid hS
      have hSX : SW w5 (wr.alloc (.cells #[.string b.name, .int .i64 b.seats, .int .i64 b.over, .slice b.A b.l.length b.c] cbT)) := Below.trans hS (Below.mono hbX hS.size)
      have HSX := Lib.hid hSX
      have hrow := (HV5.out _ hSX).2 b (List.mem_of_getElem? hb)
      have KI := Lib.hid (idxCl_any _ #[.pointer (some ⟨Z + 1, 0, none⟩)] b.A b.c b.l (codeQ s) _ eg_place (by have := HOK.out b (List.mem_of_getElem? hb); omega) hrow (fun a W ha hW => codec_any a s (Z + 1) W (R0.out _ (Below.trans hSX (Below.mono hW hSX.size)))))
      have HB := Lib.hid hb
      clear hc hgl hrow hSX hbX hb hS
      by_cases h0 : 0 ≤ idxQ (codeQ s) b.l
      · obtain ⟨e1, e2, e3⟩ := HYes.out i b HK.out HB.out h0
        have E1 := Lib.hid e1
        have E2 := Lib.hid e2
        have E3 := Lib.hid e3
        clear e1 e2 e3
        generalize idxQ (codeQ s) b.l = q at *
        go_wp2_with (go_at_call 109; refine KI.out.mono ?_; rintro e w' ⟨rfl, hb'⟩)
        refine bodyPost_ret (results_tmp3 rfl _ _ _) rfl ⟨?_, HB5.out.trans (Below.mono (Below.trans HSX.out (Below.mono hb' HSX.out.size)) HB5.out.size)⟩
        rw [E1.out, E2.out, E3.out]; rfl
      · have HK2 : Hid (∀ (j : Nat) (b : Cb), j < i + 1 → l[j]? = some b → idxQ (codeQ s) b.l < 0) := Lib.hid (fun j b' hj hb' => by
          by_cases hji : j = i
          · subst hji
            rw [HB.out] at hb'
            cases hb'
            omega
          · exact HK.out j b' (by omega) hb')
        generalize idxQ (codeQ s) b.l = q at *
        go_wp2_with (go_at_call 109; refine KI.out.mono ?_; rintro e w' ⟨rfl, hb'⟩)
        go_roundw
        case rel => exact ⟨i + 1, by omega, by go_num, HK2, Below.trans HSX.out (Below.mono hb' HSX.out.size)⟩
        case measure => simp [intOf]; omega
    · obtain ⟨e1, e2, e3⟩ := HNo.out (fun j b hb => HK.out j b (by have := (List.getElem?_eq_some_iff.1 hb).1; omega) hb)
      have E1 := Lib.hid e1
      have E2 := Lib.hid e2
      have E3 := Lib.hid e3
      clear e1 e2 e3
      go_wp2
      refine bodyPost_ret (results_tmp3 rfl _ _ _) rfl ⟨?_, HB5.out.trans (Below.mono hS HB5.out.size)⟩
      rw [E1.out, E2.out, E3.out]; rfl

end Go.Proofs.YtjmahmeionakaaaGreatDoor

/- The booking limits of a cabin. -/
namespace Go.Proofs.YtjmahmeionakaaaGreatDoor
open Go.RowKit Go.Shelf
set_option linter.unusedSimpArgs false
set_option linter.unusedVariables false

/-- the block b holds the numbers l, and they may be written -/
structure Row (W : World) (b : Nat) (l : List Int) : Prop where
  cell : ∀ j (h : j < l.length), W.cell? ⟨b, j, none⟩ = some (.int .i64 l[j])
  froz : ∀ j, j < l.length → W.frozen? ⟨b, j, none⟩ = false
  lt : b < W.heap.size
theorem Row.set {W : World} {b : Nat} {l : List Int} (h : Row W b l) (k : Nat) (hk : k < l.length) (x : Int) : Row (W.setCell ⟨b, k, none⟩ (.int .i64 x)) b (l.set k x) := by
  refine ⟨fun j hj => ?_, fun j hj => ?_, by have := h.lt; simpa using this⟩
  · have hj' : j < l.length := by rw [List.length_set] at hj; exact hj
    by_cases e : j = k
    · subst e
      rw [World.cell?_setCell_same _ _ _ (h.cell j hj')]
      simp
    · rw [World.cell?_setCell_other _ _ _ _ (by intro e'; simp only [Addr.mk.injEq] at e'; omega), h.cell j hj']
      rw [List.getElem_set_ne (by omega)]
  · rw [List.length_set] at hj
    rw [World.frozen?_setCell]; exact h.froz j hj
theorem Row.other {W : World} {b c : Nat} {l : List Int} (h : Row W b l) (hne : c ≠ b) (k : Nat) (v : Value) : Row (W.setCell ⟨c, k, none⟩ v) b l := by
  refine ⟨fun j hj => ?_, fun j hj => by rw [World.frozen?_setCell]; exact h.froz j hj, by have := h.lt; simpa using this⟩
  rw [World.cell?_setCell_other _ _ _ _ (by intro e'; simp only [Addr.mk.injEq] at e'; omega), h.cell j hj]
theorem Row.drewN {W : World} {b : Nat} {l : List Int} (h : Row W b l) (n : Nat) : Row (W.drewN n) b l := ⟨h.cell, h.froz, h.lt⟩
theorem Row.drew {W : World} {b : Nat} {l : List Int} (h : Row W b l) : Row W.drew b l := ⟨h.cell, h.froz, h.lt⟩
theorem Row.more {W W' : World} {b : Nat} {l : List Int} (h : Row W b l) (hb : Below W.heap.size W W') : Row W' b l :=
  ⟨fun j hj => (hb.cell (p := ⟨b, j, none⟩) h.lt).trans (h.cell j hj), fun j hj => (hb.frozen (p := ⟨b, j, none⟩) h.lt).trans (h.froz j hj), Nat.lt_of_lt_of_le h.lt hb.size⟩
theorem Row.alloc {W : World} {b : Nat} {l : List Int} (h : Row W b l) (o : Obj) : Row (W.alloc o) b l := h.more ((Below.refl _ _).alloc (Nat.le_refl _) _)
theorem Row.made (w : World) (n : Nat) (e : TypeId) : Row (w.alloc (.cells (madeCells #[.int .i64 0] n) e)) w.heap.size (List.replicate n 0) := by
  have hb : (w.alloc (.cells (madeCells #[.int .i64 0] n) e)).heap[w.heap.size]? = some (.cells (madeCells #[.int .i64 0] n) e (0, 0)) := heap_alloc_new w _
  refine ⟨fun j hj => ?_, fun j hj => ?_, by simp⟩
  · rw [List.length_replicate] at hj
    rw [cell_of_row _ w.heap.size j _ e (0, 0) hb, ← Array.getElem?_toList, toList_madeCells_one, List.getElem?_replicate, if_pos hj, List.getElem_replicate]
  · unfold World.frozen?
    simp only [hb]
    simp
theorem intT : (Tryz.prog.info? 3).map (fun i => (i.zero, i.size, i.bytes)) = some (some (.int .i64 0), 1, 8) := by kernel_rfl


def encI (n : Int) : List Value := [.int .i64 n]
theorem rowI : RT Tryz.prog 98 3 1 encI where
  ht := Tryz.underlying98
  info := ⟨.int .i64 0, 8, by kernel_rfl, rfl, by omega⟩
  len x := rfl
  one x u hu := by simp [encI] at hu; subst hu; rfl
  pos := by omega
abbrev IntR (w : World) (v : Value) (l : List Int) : Prop := RowL 1 encI w v l
theorem Row.intR {W : World} {b c : Nat} {l : List Int} (h : Row W b l) : IntR W (.slice (some ⟨b, 0, none⟩) l.length c) l :=
  ⟨_, _, rfl, .inr ⟨b, 0, rfl, h.lt, fun i x j u hi hu => by
    obtain ⟨hi', rfl⟩ := List.getElem?_eq_some_iff.1 hi
    cases j with
    | zero => simp [encI] at hu; subst hu; rw [Nat.zero_add, Nat.mul_one, Nat.add_zero]; exact h.cell i hi'
    | succ j => simp [encI] at hu⟩⟩
def tab (f : Nat → Int) (n : Nat) : List Int := (List.range n).map f
theorem tab_len (f : Nat → Int) (n : Nat) : (tab f n).length = n := by simp [tab]
theorem tab_get (f : Nat → Int) (n k : Nat) (h : k < n) : (tab f n)[k]? = some (f k) := by simp [tab, h]
theorem tab_zero (n : Nat) (f : Nat → Int) : tab (fun j => if j < 0 then f j else 0) n = List.replicate n 0 := by
  apply List.ext_getElem
  · simp [tab]
  · intro i h1 h2; simp [tab]
theorem tab_full (n : Nat) (f : Nat → Int) : tab (fun j => if j < n then f j else 0) n = tab f n := by
  apply List.ext_getElem
  · simp [tab]
  · intro i h1 h2
    have h1' : i < n := by simpa [tab] using h1
    simp [tab, h1']
theorem tab_put (n k : Nat) (f : Nat → Int) (h : k < n) : (tab (fun j => if j < k then f j else 0) n).set k (f k) = tab (fun j => if j < k + 1 then f j else 0) n := by
  apply List.ext_getElem
  · simp [tab]
  · intro i h1 h2
    have h1' : i < n := by simpa [tab] using h1
    rw [List.getElem_set]
    simp only [tab, List.getElem_map, List.getElem_range]
    by_cases e : k = i
    · subst e; simp
    · rw [if_neg e]
      by_cases h3 : i < k
      · rw [if_pos h3, if_pos (by omega)]
      · rw [if_neg h3, if_neg (by omega)]
/-- the limit of the class k -/
def limA (b : Cb) : Nat → Int
  | 0 => b.seats + b.over
  | k + 1 => match b.l[k]? with
    | some x => b.seats + b.over - x.prot
    | none => 0
structure LimP (b : Cb) : Prop where
  siz : sizB b = true
  len : b.l.length ≤ 30
  pro : ∀ x ∈ b.l, 0 ≤ x.prot ∧ x.prot ≤ 1998
/-- the memory while the limits are laid -/
structure LimW (w : World) (Z G : Nat) (vs : List Value) (l : List Int) (W : World) : Prop where
  box : ∀ j y, vs[j]? = some y → W.cell? ⟨Z, j, none⟩ = some y
  row : Row W G l
  bel : Below w.heap.size w W
theorem LimW.more {w : World} {Z G : Nat} {vs : List Value} {l : List Int} {W W' : World} (h : LimW w Z G vs l W) (hb : Below W.heap.size W W') : LimW w Z G vs l W' :=
  ⟨fun j y hy => bel_cell hb (h.box j y hy), h.row.more hb, h.bel.trans (hb.mono h.bel.size)⟩
theorem LimW.set {w : World} {Z G : Nat} {vs : List Value} {l : List Int} {W : World} (h : LimW w Z G vs l W) (hne : Z ≠ G) (hG : w.heap.size ≤ G) (k : Nat) (hk : k < l.length) (x : Int) : LimW w Z G vs (l.set k x) (W.setCell ⟨G, k, none⟩ (.int .i64 x)) :=
  ⟨fun j y hy => by rw [World.cell?_setCell_other _ _ _ _ (by intro e; simp only [Addr.mk.injEq] at e; omega)]; exact h.box j y hy, h.row.set k hk x, h.bel.setCell (p := ⟨G, k, none⟩) hG _⟩
end Go.Proofs.YtjmahmeionakaaaGreatDoor

/- slices.Clone at cabins and at classes; Find. -/
namespace Go.Proofs.YtjmahmeionakaaaGreatDoor
open Go.RowKit Go.Shelf
set_option linter.unusedSimpArgs false
set_option linter.unusedVariables false

theorem own_form {α : Type} {enc : α → List Value} {e : TypeId} {sz B : Nat} {w : World} {v : Value} {l : List α} (h : ROwn e sz enc B w v l) (hlen : ∀ x, (enc x).length = sz) :
    ∃ A c, v = .slice A l.length c ∧ (l = [] ∨ ∃ g, A = some ⟨g, 0, none⟩ ∧ B ≤ g ∧ g < w.heap.size ∧ (∀ i x j u, l[i]? = some x → (enc x)[j]? = some u → w.cell? ⟨g, i * sz + j, none⟩ = some u) ∧ ∀ j, w.frozen? ⟨g, j, none⟩ = false) := by
  obtain ⟨A, c, hv, hr⟩ := h.rowL hlen
  refine ⟨A, c, hv, ?_⟩
  rcases hr with hr | ⟨b, o, rfl, hlt, hc⟩
  · exact .inl hr
  · rcases h.own.2 with ⟨h1, h2⟩ | ⟨g, cap, cur, h1, h2, h3, _⟩
    · rw [h1] at hv; simp at hv
    · rw [h1] at hv
      simp only [Value.slice.injEq, Option.some.injEq, Addr.mk.injEq, and_true] at hv
      obtain ⟨⟨rfl, rfl⟩, _⟩ := hv
      exact .inr ⟨g, rfl, h2, hlt, fun i x j u hi hu => by have := hc i x j u hi hu; rw [Nat.zero_add] at this; exact this, fun j => frozen_of_row w g j cur e h3⟩

theorem nil_yesCl (n c : Nat) (w : World) : (binOp .eql 94 (.slice none n c) (.slice none 0 0)).run Tryz.prog w = .ok (.bool true) w := by kernel_rfl
theorem nil_noCl (a : Addr) (n c : Nat) (w : World) : (binOp .eql 94 (.slice (some a) n c) (.slice none 0 0)).run Tryz.prog w = .ok (.bool false) w := by kernel_rfl
set_option maxRecDepth 100000 in
set_option maxHeartbeats 2000000 in
theorem cloneCl_any (A : Option Addr) (c : Nat) (l : List Cl) (w : World) (hl : l.length ≤ 1000) (hL : RowL 2 encCl w (.slice A l.length c) l) :
    Calls Tryz.prog 92 #[.slice A l.length c] w fun e w' => ∃ v', e = .returned v' ∧ ROwn clT 2 encCl w.heap.size w' v' l ∧ Below w.heap.size w w' := by
  cases A with
  | none =>
    have h0 : l = [] := by
      obtain ⟨A', c', h1, h2⟩ := hL
      simp only [Value.slice.injEq] at h1
      obtain ⟨rfl, _, rfl⟩ := h1
      rcases h2 with h | ⟨b, o, h, _⟩
      · exact h
      · cases h
    subst h0
    have n1 := nil_yesCl 0 c w
    go_enter Tryz.func92, Tryz.ntmps92
    go_wp2
    go_ret
    exact ⟨_, rfl, ROwn.nil (Nat.le_refl _), Below.refl _ _⟩
  | some ad =>
    have n1 := nil_noCl ad l.length c w
    have hb0 := bel_alloc w (.cells #[] clT)
    have HO := Lib.hid (ROwn.new (e := clT) (sz := 2) (enc := encCl) (B := w.heap.size) (w := w) (Nat.le_refl _) [] (fun x => rfl) (cs := #[]) rfl (by simp))
    have HL := Lib.hid (hL.more hb0)
    clear hL
    go_enter Tryz.func92, Tryz.ntmps92
    go_wp2_with (at_builtin; refine wpList_rappl rowCl rfl _ _ rfl HO.out rfl l _ rfl HL.out (by simp; omega) ?_; intro v' w' hO1 hC1; refine Hid.out ?_)
    have HR : Hid (ROwn clT 2 encCl w.heap.size w' v' l ∧ Below w.heap.size w w') := Lib.hid ⟨by simpa using hO1, hb0.trans (hC1.below HO.out)⟩
    clear hO1 hC1
    refine Lib.hid ?_
    go_wp2
    go_ret
    exact ⟨_, rfl, HR.out⟩

theorem nil_yesCb (n c : Nat) (w : World) : (binOp .eql 79 (.slice none n c) (.slice none 0 0)).run Tryz.prog w = .ok (.bool true) w := by kernel_rfl
theorem nil_noCb (a : Addr) (n c : Nat) (w : World) : (binOp .eql 79 (.slice (some a) n c) (.slice none 0 0)).run Tryz.prog w = .ok (.bool false) w := by kernel_rfl
set_option maxRecDepth 100000 in
set_option maxHeartbeats 2000000 in
theorem cloneCb_any (A : Option Addr) (c : Nat) (l : List Cb) (w : World) (hl : l.length ≤ 1000) (hL : RowL 4 encCb w (.slice A l.length c) l) :
    Calls Tryz.prog 91 #[.slice A l.length c] w fun e w' => ∃ v', e = .returned v' ∧ ROwn cbT 4 encCb w.heap.size w' v' l ∧ Below w.heap.size w w' := by
  cases A with
  | none =>
    have h0 : l = [] := by
      obtain ⟨A', c', h1, h2⟩ := hL
      simp only [Value.slice.injEq] at h1
      obtain ⟨rfl, _, rfl⟩ := h1
      rcases h2 with h | ⟨b, o, h, _⟩
      · exact h
      · cases h
    subst h0
    have n1 := nil_yesCb 0 c w
    go_enter Tryz.func91, Tryz.ntmps91
    go_wp2
    go_ret
    exact ⟨_, rfl, ROwn.nil (Nat.le_refl _), Below.refl _ _⟩
  | some ad =>
    have n1 := nil_noCb ad l.length c w
    have hb0 := bel_alloc w (.cells #[] cbT)
    have HO := Lib.hid (ROwn.new (e := cbT) (sz := 4) (enc := encCb) (B := w.heap.size) (w := w) (Nat.le_refl _) [] (fun x => rfl) (cs := #[]) rfl (by simp))
    have HL := Lib.hid (hL.more hb0)
    clear hL
    go_enter Tryz.func91, Tryz.ntmps91
    go_wp2_with (at_builtin; refine wpList_rappl rowCb rfl _ _ rfl HO.out rfl l _ rfl HL.out (by simp; omega) ?_; intro v' w' hO1 hC1; refine Hid.out ?_)
    have HR : Hid (ROwn cbT 4 encCb w.heap.size w' v' l ∧ Below w.heap.size w w') := Lib.hid ⟨by simpa using hO1, hb0.trans (hC1.below HO.out)⟩
    clear hO1 hC1
    refine Lib.hid ?_
    go_wp2
    go_ret
    exact ⟨_, rfl, HR.out⟩

/-! ### plain: a copy of a configuration -/
def pcb (b : Cb) : ByteArray × Int × Int × List Cl := (b.name, b.seats, b.over, b.l)
/-- the same configuration, wherever it lies -/
structure SamC (f g : Cf) : Prop where
  eq : f.equip = g.equip
  l : f.l.map pcb = g.l.map pcb
theorem SamC.refl (f : Cf) : SamC f f := ⟨rfl, rfl⟩
theorem pcb_set {L : List Cb} {k : Nat} {b b' : Cb} (h : L[k]? = some b) (he : pcb b' = pcb b) : (L.set k b').map pcb = L.map pcb := by
  apply List.ext_getElem?
  intro i
  rw [List.getElem?_map, List.getElem?_map, List.getElem?_set]
  by_cases e : k = i
  · subst e
    have hk := (List.getElem?_eq_some_iff.1 h).1
    rw [if_pos rfl, if_pos hk, h]
    simp [he]
  · rw [if_neg e]
def cfZ : Cf := ⟨noB, none, 0, []⟩
def findQ (l : List Cf) (s : ByteArray) : Option Cf := l.find? fun f => eqS f.equip s
/-- block G holds the cabins L, and may be written; their classes lie elsewhere -/
structure CbRow (W : World) (G : Nat) (L : List Cb) : Prop where
  cell : ∀ i b j u, L[i]? = some b → (encCb b)[j]? = some u → W.cell? ⟨G, i * 4 + j, none⟩ = some u
  froz : ∀ j, W.frozen? ⟨G, j, none⟩ = false
  lt : G < W.heap.size
  cls : ∀ b ∈ L, CbAt W b ∧ (b.l = [] ∨ ∀ g o, b.A = some ⟨g, o, none⟩ → g ≠ G)
theorem CbRow.more {W W' : World} {G : Nat} {L : List Cb} (h : CbRow W G L) (hb : Below W.heap.size W W') : CbRow W' G L :=
  ⟨fun i b j u hi hu => bel_cell hb (h.cell i b j u hi hu), fun j => (hb.frozen (p := ⟨G, j, none⟩) h.lt).trans (h.froz j), Nat.lt_of_lt_of_le h.lt hb.size, fun b hm => ⟨(h.cls b hm).1.more hb, (h.cls b hm).2⟩⟩
theorem RowL.other {α : Type} {enc : α → List Value} {sz : Nat} {W : World} {A : Option Addr} {n c : Nat} {l : List α} (h : RowL sz enc W (.slice A n c) l) {G : Nat} (hne : l = [] ∨ ∀ g o, A = some ⟨g, o, none⟩ → g ≠ G) (q : Nat) (x : Value) : RowL sz enc (W.setCell ⟨G, q, none⟩ x) (.slice A n c) l := by
  obtain ⟨A', c', h1, h2⟩ := h
  simp only [Value.slice.injEq] at h1
  obtain ⟨rfl, rfl, rfl⟩ := h1
  refine ⟨_, _, rfl, ?_⟩
  rcases h2 with h | ⟨b, o, rfl, hlt, hc⟩
  · exact .inl h
  · rcases hne with hne | hne
    · exact .inl hne
    · refine .inr ⟨b, o, rfl, by simpa using hlt, fun i x' j u hi hu => ?_⟩
      rw [World.cell?_setCell_other _ _ _ _ (by intro e; simp only [Addr.mk.injEq] at e; exact hne b o rfl e.1.symm)]
      exact hc i x' j u hi hu
theorem CbRow.set {W : World} {G : Nat} {L : List Cb} (h : CbRow W G L) {k : Nat} {b : Cb} (hb : L[k]? = some b) (A' : Option Addr) (c' : Nat) (hcl : ClL W (.slice A' b.l.length c') b.l) (hne : b.l = [] ∨ ∀ g o, A' = some ⟨g, o, none⟩ → g ≠ G) :
    CbRow (W.setCell ⟨G, k * 4 + 3, none⟩ (.slice A' b.l.length c')) G (L.set k { b with A := A', c := c' }) := by
  have hk := (List.getElem?_eq_some_iff.1 hb).1
  refine ⟨fun i x j u hi hu => ?_, fun j => by rw [World.frozen?_setCell]; exact h.froz j, by have := h.lt; simpa using this, fun x hx => ?_⟩
  · have hj : j < 4 := by have := (List.getElem?_eq_some_iff.1 hu).1; simpa [encCb] using this
    rw [List.getElem?_set] at hi
    by_cases e : k = i
    · subst e
      rw [if_pos rfl, if_pos hk] at hi
      cases hi
      by_cases e3 : j = 3
      · subst e3
        have hu' : u = .slice A' b.l.length c' := by simpa [encCb] using hu.symm
        rw [hu', World.cell?_setCell_same _ _ _ (h.cell k b 3 _ hb rfl)]
      · rw [World.cell?_setCell_other _ _ _ _ (by intro e; simp only [Addr.mk.injEq] at e; omega)]
        refine h.cell k b j u hb ?_
        have h3 : j = 0 ∨ j = 1 ∨ j = 2 := by omega
        rcases h3 with rfl | rfl | rfl <;> simpa [encCb] using hu
    · rw [if_neg e] at hi
      rw [World.cell?_setCell_other _ _ _ _ (by intro e'; simp only [Addr.mk.injEq] at e'; omega)]
      exact h.cell i x j u hi hu
  · rcases List.mem_or_eq_of_mem_set hx with hm | rfl
    · exact ⟨RowL.other (h.cls x hm).1 (h.cls x hm).2 _ _, (h.cls x hm).2⟩
    · exact ⟨RowL.other hcl hne _ _, hne⟩
theorem CbRow.cbL {W : World} {G : Nat} {L : List Cb} (h : CbRow W G L) (c : Nat) : CbL W (.slice (some ⟨G, 0, none⟩) L.length c) L :=
  ⟨⟨_, _, rfl, .inr ⟨G, 0, rfl, h.lt, fun i x j u hi hu => by rw [Nat.zero_add]; exact h.cell i x j u hi hu⟩⟩, fun b hm => (h.cls b hm).1⟩
theorem CbL.other {W : World} {A : Option Addr} {n c : Nat} {L : List Cb} (h : CbL W (.slice A n c) L) {G : Nat} (h1 : L = [] ∨ ∀ g o, A = some ⟨g, o, none⟩ → g ≠ G) (h2 : ∀ b ∈ L, b.l = [] ∨ ∀ g o, b.A = some ⟨g, o, none⟩ → g ≠ G) (q : Nat) (x : Value) : CbL (W.setCell ⟨G, q, none⟩ x) (.slice A n c) L :=
  ⟨RowL.other h.1 h1 q x, fun b hm => RowL.other (h.2 b hm) (h2 b hm) q x⟩
theorem RowL.blk {α : Type} {enc : α → List Value} {sz : Nat} {W : World} {A : Option Addr} {n c : Nat} {l : List α} (h : RowL sz enc W (.slice A n c) l) : l = [] ∨ ∀ g o, A = some ⟨g, o, none⟩ → g < W.heap.size := by
  obtain ⟨A', c', h1, h2⟩ := h
  simp only [Value.slice.injEq] at h1
  obtain ⟨rfl, rfl, rfl⟩ := h1
  rcases h2 with h | ⟨b, o, rfl, hlt, hc⟩
  · exact .inl h
  · exact .inr (fun g o h => by cases h; exact hlt)
/-- what is found: a copy of the first configuration with the equipment -/
def FindO (o : Option Cf) (e : Ending) (w' : World) : Prop := ∃ f : Cf, e = .returned (.tuple #[aggCf f, .bool o.isSome]) ∧ CfAt w' f ∧ SamC f (o.getD cfZ)
theorem row2_cells {W : World} {N : Nat} {a b : Value} {t : TypeId} (h : W.heap[N]? = some (.cells #[a, b] t (0, 0))) : W.cell? ⟨N, 0, none⟩ = some a ∧ W.cell? ⟨N, 1, none⟩ = some b ∧ W.frozen? ⟨N, 0, none⟩ = false ∧ W.frozen? ⟨N, 1, none⟩ = false :=
  ⟨cell_of_row W N 0 _ _ (0, 0) h, cell_of_row W N 1 _ _ (0, 0) h, frozen_of_row W N 0 _ _ h, frozen_of_row W N 1 _ _ h⟩

set_option maxRecDepth 100000 in
set_option maxHeartbeats 8000000 in
theorem rfind_any (A : Option Addr) (c : Nat) (l : List Cf) (s : ByteArray) (w : World) (hv : CfL w (.slice A l.length c) l) (hn : l.length ≤ 8) :
    Calls Tryz.prog 73 #[.slice A l.length c, .string s] w fun e w' => FindO (findQ l s) e w' ∧ Below w.heap.size w w' := by
  have HV := Lib.hid hv
  clear hv
  have hb0 := bel_alloc w (.cells #[.string noB, .slice none 0 0] cfT)
  have hN := heap_alloc_new w (.cells #[.string noB, .slice none 0 0] cfT)
  obtain ⟨R, hR⟩ : ∃ R, R = w.heap.size := ⟨_, rfl⟩
  rw [← hR] at hN
  have HQ : Hid (∀ k, (∀ (j : Nat) (x : Cf), j < k → l[j]? = some x → eqS x.equip s = false) → (∀ a, l[k]? = some a → eqS a.equip s = true → findQ l s = some a) ∧ (l.length ≤ k → findQ l s = none)) := Lib.hid (fun k h => by
    rcases idxQ_find (fun f : Cf => eqS f.equip s) l with ⟨_, h2, h3⟩ | ⟨m, b, h1, h2, h3, h4, h5, h6⟩
    · exact ⟨fun a ha he => (by rw [h3 k a ha] at he; cases he), fun _ => h2⟩
    · have hmk : ∀ a, l[k]? = some a → eqS a.equip s = true → m = k := fun a ha he => by
        rcases Nat.lt_trichotomy m k with hlt | he' | hlt
        · rw [h m b hlt h2] at h5; cases h5
        · exact he'
        · rw [h6 k a hlt ha] at he; cases he
      refine ⟨fun a ha he => ?_, fun hk => ?_⟩
      · have := hmk a ha he
        subst this
        rw [ha] at h2
        cases h2
        exact h3
      · rw [h m b (by omega) h2] at h5; cases h5)
  go_enter Tryz.func73, Tryz.ntmps73
  go_upto_region 1 with fail
  rw [← hR]
  have HB5 := Lib.hid hb0
  have HR := Lib.hid hR
  generalize w.alloc (.cells #[.string noB, .slice none 0 0] cfT) = w5 at *
  clear hb0 hR
  have HN := Lib.hid hN
  clear hN
  go_wp2
  go_loopg [6] l.length (fun kx v6 wr => ∃ i : Nat, v6 = .int .i64 i ∧ i + kx = l.length ∧ Hid (∀ (j : Nat) (x : Cf), j < i → l[j]? = some x → eqS x.equip s = false) ∧ wr = w5)
  case atStart => exact ⟨0, rfl, by omega, Lib.hid (fun j x hj => absurd hj (Nat.not_lt_zero _)), rfl⟩
  case round =>
    obtain ⟨i, rfl, hix, HK, rfl⟩ := hrel
    have HIX := Lib.hid hix
    have hi8 : i ≤ 8 := by omega
    by_cases hlt : i < l.length
    · obtain ⟨f, hf⟩ : ∃ f, l[i]? = some f := ⟨_, List.getElem?_eq_getElem hlt⟩
      obtain ⟨b1, o1, e1, hgl, hc⟩ := row_get (HV.out.more HB5.out).1 hf
      cases e1
      have i2 : (i : Int) < (l.length : Int) := by omega
      have z0 := hc 0 _ rfl
      have z1 := hc 1 _ rfl
      rw [Nat.add_zero] at z0
      have HF := Lib.hid hf
      clear hc hgl hix
      cases he : (f.equip.toList == s.toList) with
      | true =>
        have HFi := Lib.hid ((HQ.out i HK.out).1 f hf he)
        obtain ⟨n0, n1, m0, m1⟩ := row2_cells HN.out
        have hx := S2.heap HN.out (.string f.equip) (.slice f.A f.l.length f.c)
        have hbt := S2.but wr R (.string f.equip) (.slice f.A f.l.length f.c)
        have hbw : Below w.heap.size w ((wr.setCell ⟨R, 0, none⟩ (.string f.equip)).setCell ⟨R, 1, none⟩ (.slice f.A f.l.length f.c)) := HB5.out.trans (hbt.below HB5.out.size (fun k hk => by have := HR.out; omega))
        have hAt : CfAt ((wr.setCell ⟨R, 0, none⟩ (.string f.equip)).setCell ⟨R, 1, none⟩ (.slice f.A f.l.length f.c)) f := (HV.out.2 f (List.mem_of_getElem? hf)).more hbw
        obtain ⟨c0, c1, _, _⟩ := row2_cells hx
        have HX := Lib.hid (And.intro hAt hbw)
        clear hf hx hbt hbw hAt
        go_wp2
        refine bodyPost_ret (v := .tuple #[aggCf f, .bool true]) ?_ rfl ⟨⟨f, by rw [HFi.out]; rfl, HX.out.1, by rw [HFi.out]; exact SamC.refl f⟩, HX.out.2⟩
        generalize (wr.setCell ⟨R, 0, none⟩ (.string f.equip)).setCell ⟨R, 1, none⟩ (.slice f.A f.l.length f.c) = WW at c0 c1 ⊢
        simp [results, Tryz.results73, go_sem, c0, c1]
      | false =>
        have HK2 : Hid (∀ (j : Nat) (x : Cf), j < i + 1 → l[j]? = some x → eqS x.equip s = false) := Lib.hid (fun j x hj hx => by
          by_cases hji : j = i
          · subst hji
            rw [HF.out] at hx
            cases hx
            exact he
          · exact HK.out j x (by omega) hx)
        clear hf
        go_wp2
        go_roundg (l.length - (i + 1))
        case measure => have := HIX.out; omega
        case rel => exact ⟨i + 1, by go_num, by have := HIX.out; omega, HK2, by first | rfl | trivial⟩
    · have HFi := Lib.hid ((HQ.out i HK.out).2 (by omega))
      obtain ⟨n0, n1, m0, m1⟩ := row2_cells HN.out
      have hx := S2.heap HN.out (.string noB) (.slice none 0 0)
      have hbt := S2.but wr R (.string noB) (.slice none 0 0)
      have hbw : Below w.heap.size w ((wr.setCell ⟨R, 0, none⟩ (.string noB)).setCell ⟨R, 1, none⟩ (.slice none 0 0)) := HB5.out.trans (hbt.below HB5.out.size (fun k hk => by have := HR.out; omega))
      obtain ⟨c0, c1, _, _⟩ := row2_cells hx
      have HX := Lib.hid hbw
      have i2 : ¬ (i : Int) < (l.length : Int) := by omega
      clear hx hbt hbw
      go_wp2
      refine bodyPost_ret (v := .tuple #[aggCf cfZ, .bool false]) ?_ rfl ⟨⟨cfZ, by rw [HFi.out]; rfl, ⟨⟨none, 0, rfl, .inl rfl⟩, fun b hb => by cases hb⟩, by rw [HFi.out]; exact SamC.refl cfZ⟩, HX.out⟩
      generalize (wr.setCell ⟨R, 0, none⟩ (.string noB)).setCell ⟨R, 1, none⟩ (.slice none 0 0) = WW at c0 c1 ⊢
      simp [results, Tryz.results73, go_sem, c0, c1, cfZ]
end Go.Proofs.YtjmahmeionakaaaGreatDoor

/- Walk of Find. -/
namespace Go.Proofs.YtjmahmeionakaaaGreatDoor
open Go.RowKit Go.Shelf
set_option linter.unusedSimpArgs false
set_option linter.unusedVariables false

theorem sam_len {L M : List Cb} (h : L.map pcb = M.map pcb) : L.length = M.length := by have := congrArg List.length h; simpa using this
theorem sam_at {L M : List Cb} (h : L.map pcb = M.map pcb) {k : Nat} {b b' : Cb} (hb : L[k]? = some b) (hb' : M[k]? = some b') : pcb b = pcb b' := by
  have h1 : (L.map pcb)[k]? = some (pcb b) := by rw [List.getElem?_map, hb]; rfl
  rw [h, List.getElem?_map, hb'] at h1
  exact (Option.some.inj h1).symm
/-- the memory while the classes of a copy are copied -/
structure FSt (w : World) (M R : Nat) (A3 : Option Addr) (c3 : Nat) (f : Cf) (L : List Cb) (W : World) : Prop where
  m0 : W.cell? ⟨M, 0, none⟩ = some (.string f.equip)
  m1 : W.cell? ⟨M, 1, none⟩ = some (.slice A3 f.l.length c3)
  r : W.heap[R]? = some (.cells #[.string noB, .slice none 0 0] cfT (0, 0))
  sam : L.map pcb = f.l.map pcb
  row : L = [] ∨ ∃ G, A3 = some ⟨G, 0, none⟩ ∧ G ≠ M ∧ G ≠ R ∧ w.heap.size ≤ G ∧ CbRow W G L
  off : ∀ b ∈ L, b.l = [] ∨ ∀ g o, b.A = some ⟨g, o, none⟩ → g ≠ R
  bel : Below w.heap.size w W
theorem FSt.step {w : World} {M R : Nat} {c3 G : Nat} {f : Cf} {L : List Cb} {W W' : World} (h : FSt w M R (some ⟨G, 0, none⟩) c3 f L W) (hb : Below W.heap.size W W') (hGM : G ≠ M) (hGR : G ≠ R) (hG : w.heap.size ≤ G) (hrow : CbRow W G L) {k : Nat} {b : Cb} (hk : L[k]? = some b) {A' : Option Addr} {c' : Nat}
    (hcl : ClL W' (.slice A' b.l.length c') b.l) (hne : b.l = [] ∨ ∀ g o, A' = some ⟨g, o, none⟩ → W.heap.size ≤ g) : FSt w M R (some ⟨G, 0, none⟩) c3 f (L.set k { b with A := A', c := c' }) (W'.setCell ⟨G, k * 4 + 3, none⟩ (.slice A' b.l.length c')) where
  m0 := by rw [World.cell?_setCell_other _ _ _ _ (by intro e; simp only [Addr.mk.injEq] at e; exact hGM e.1)]; exact bel_cell hb h.m0
  m1 := by rw [World.cell?_setCell_other _ _ _ _ (by intro e; simp only [Addr.mk.injEq] at e; exact hGM e.1)]; exact bel_cell hb h.m1
  r := by rw [heap_setCell_other _ _ _ _ (fun e => hGR e.symm)]; exact (hb.block _ (lt_of_cell2 h.r)).trans h.r
  sam := (pcb_set (b' := { b with A := A', c := c' }) hk rfl).trans h.sam
  row := .inr ⟨G, rfl, hGM, hGR, hG, (hrow.more hb).set hk A' c' hcl (by
    rcases hne with h1 | h1
    · exact .inl h1
    · exact .inr (fun g o e => by have := h1 g o e; have := hrow.lt; omega))⟩
  off := fun x hx => by
    rcases List.mem_or_eq_of_mem_set hx with hm | rfl
    · exact h.off x hm
    · rcases hne with h1 | h1
      · exact .inl h1
      · exact .inr (fun g o e => by have := h1 g o e; have := lt_of_cell2 h.r; omega)
  bel := (h.bel.trans (hb.mono h.bel.size)).setCell (p := ⟨G, k * 4 + 3, none⟩) hG _

set_option maxRecDepth 100000 in
set_option maxHeartbeats 16000000 in
theorem find_any (A : Option Addr) (c : Nat) (l : List Cf) (s : ByteArray) (w : World) (hv : CfL w (.slice A l.length c) l) (hn : l.length ≤ 8) (hok : ∀ f ∈ l, OkCf f) :
    Calls Tryz.prog 42 #[.slice A l.length c, .string s] w fun e w' => FindO (findQ l s) e w' ∧ Below w.heap.size w w' := by
  have HV := Lib.hid hv
  have HOK := Lib.hid hok
  have hbA := bel_alloc w (.cells #[.string s] 9)
  have hbB := bel_alloc (w.alloc (.cells #[.string s] 9)) (.cells #[.string noB, .slice none 0 0] cfT)
  have hb0 := hbA.trans (hbB.mono hbA.size)
  have q0 := bel_cell hbB ((cells_new w #[.string s] 9 0).trans (show _ = some (Value.string s) from rfl))
  have hN := heap_alloc_new (w.alloc (.cells #[.string s] 9)) (.cells #[.string noB, .slice none 0 0] cfT)
  rw [World.size_alloc] at hN
  have KI := Lib.hid (idxCf_any _ #[.pointer (some ⟨w.heap.size, 0, none⟩)] A c l (fun f => eqS f.equip s) _ eg_find (by omega) (hv.more hb0).1 (fun a W ha hW => equipc_any a s w.heap.size W (bel_cell hW q0)))
  obtain ⟨R, hR⟩ : ∃ R, R = w.heap.size + 1 := ⟨_, rfl⟩
  have HR := Lib.hid hR
  rw [← hR] at hN
  obtain ⟨B, hB⟩ : ∃ B, B = w.heap.size := ⟨_, rfl⟩
  have HB := Lib.hid hB
  rw [← hB] at q0 KI
  have HQ := idxQ_find (fun f : Cf => eqS f.equip s) l
  clear hv hok hbA hbB
  rcases HQ with ⟨h1, h2, h3⟩ | ⟨k, f, h1, h2, h3, h4, h5, h6⟩
  · rw [h1] at KI
    have HFi : Hid (findQ l s = none) := Lib.hid h2
    clear h1 h2 h3
    go_enter Tryz.func42, Tryz.ntmps42
    go_upto_region 1 with fail
    rw [← hR, ← hB]
    have HB5 := Lib.hid hb0
    generalize (w.alloc (.cells #[.string s] 9)).alloc (.cells #[.string noB, .slice none 0 0] cfT) = w5 at *
    clear hb0 hR hB q0
    go_upto_region 2 with (go_at_call 89; refine KI.out.mono ?_; rintro e w1 ⟨rfl, hb1⟩)
    have HB1 : Hid (Below w.heap.size w w1) := Lib.hid (HB5.out.trans (Below.mono hb1 HB5.out.size))
    have hN1 := (hb1.block _ (lt_of_cell2 hN)).trans hN
    clear hN hb1 KI
    obtain ⟨n0, n1, m0, m1⟩ := row2_cells hN1
    have hx := S2.heap hN1 (.string noB) (.slice none 0 0)
    have hbt := S2.but w1 R (.string noB) (.slice none 0 0)
    have hbw : Below w.heap.size w ((w1.setCell ⟨R, 0, none⟩ (.string noB)).setCell ⟨R, 1, none⟩ (.slice none 0 0)) := HB1.out.trans (hbt.below HB1.out.size (fun k hk => by have := HR.out; omega))
    obtain ⟨c0, c1, _, _⟩ := row2_cells hx
    have HX := Lib.hid hbw
    clear hx hbt hbw hN1
    go_wp2
    refine bodyPost_ret (v := .tuple #[aggCf cfZ, .bool false]) ?_ rfl ⟨⟨cfZ, by rw [HFi.out]; rfl, ⟨⟨none, 0, rfl, .inl rfl⟩, fun b hb => by cases hb⟩, by rw [HFi.out]; exact SamC.refl cfZ⟩, HX.out⟩
    generalize (w1.setCell ⟨R, 0, none⟩ (.string noB)).setCell ⟨R, 1, none⟩ (.slice none 0 0) = WW at c0 c1 ⊢
    simp [results, Tryz.results42, go_sem, c0, c1, cfZ]
  · rw [h1] at KI
    have HFi : Hid (findQ l s = some f) := Lib.hid h3
    have HF := Lib.hid h2
    have hokf := HOK.out f (List.mem_of_getElem? h2)
    have hlen := hokf.len
    have HOF := Lib.hid hokf
    have i1 : (0 : Int) ≤ (k : Int) := by omega
    have i2 : (k : Int) < (l.length : Int) := by omega
    clear h1 h2 h3 h5 h6 hokf
    go_enter Tryz.func42, Tryz.ntmps42
    go_upto_region 1 with fail
    rw [← hR, ← hB]
    have HB5 := Lib.hid hb0
    generalize (w.alloc (.cells #[.string s] 9)).alloc (.cells #[.string noB, .slice none 0 0] cfT) = w5 at *
    clear hb0 hR hB q0
    go_upto_region 2 with (go_at_call 89; refine KI.out.mono ?_; rintro e w1 ⟨rfl, hb1⟩)
    have HB1 : Hid (Below w.heap.size w w1) := Lib.hid (HB5.out.trans (Below.mono hb1 HB5.out.size))
    have hN1 := (hb1.block _ (lt_of_cell2 hN)).trans hN
    have HN1 := Lib.hid hN1
    clear hN hb1 KI hN1
    obtain ⟨b1, o1, e1, hgl, hc⟩ := row_get (HV.out.more HB1.out).1 HF.out
    cases e1
    have z0 := hc 0 _ rfl
    have z1 := hc 1 _ rfl
    rw [Nat.add_zero] at z0
    have hbM := bel_alloc w1 (.cells #[.string f.equip, .slice f.A f.l.length f.c] cfT)
    have hM := heap_alloc_new w1 (.cells #[.string f.equip, .slice f.A f.l.length f.c] cfT)
    obtain ⟨M, hMe⟩ : ∃ M, M = w1.heap.size := ⟨_, rfl⟩
    rw [← hMe] at hM
    have HFL : Hid (CbL (w1.alloc (.cells #[.string f.equip, .slice f.A f.l.length f.c] cfT)) (.slice f.A f.l.length f.c) f.l) := Lib.hid (CbL.more (HV.out.2 f (List.mem_of_getElem? HF.out)) (HB1.out.trans (hbM.mono HB1.out.size)))
    have HOR : Hid (∀ b ∈ f.l, b.l = [] ∨ ∀ g o, b.A = some ⟨g, o, none⟩ → g < w.heap.size) := Lib.hid (fun b hb => RowL.blk ((HV.out.2 f (List.mem_of_getElem? HF.out)).2 b hb))
    have HB2 : Hid (Below w.heap.size w (w1.alloc (.cells #[.string f.equip, .slice f.A f.l.length f.c] cfT))) := Lib.hid (HB1.out.trans (hbM.mono HB1.out.size))
    have HN2 : Hid ((w1.alloc (.cells #[.string f.equip, .slice f.A f.l.length f.c] cfT)).heap[R]? = some (.cells #[.string noB, .slice none 0 0] cfT (0, 0))) := Lib.hid ((hbM.block _ (lt_of_cell2 HN1.out)).trans HN1.out)
    have HMR : Hid (R < M) := Lib.hid (by have := lt_of_cell2 HN1.out; omega)
    have hneg : ¬ (k : Int) < 0 := by omega
    go_upto_region 5 with fail
    rw [← hMe]
    clear z0 z1 hc hgl hMe
    generalize w1.alloc (.cells #[.string f.equip, .slice f.A f.l.length f.c] cfT) = w2 at *
    obtain ⟨p0, p1, _, pz⟩ := row2_cells hM
    have hMl := lt_of_cell2 hM
    have HMl := Lib.hid hMl
    have KL := Lib.hid (cloneCb_any f.A f.c f.l w2 (by omega) HFL.out.1)
    go_upto_region 6 with (go_at_call 91; refine KL.out.mono ?_; rintro e w3 ⟨v3, rfl, hO3, hb3⟩; obtain ⟨A3, c3, rfl, hform⟩ := own_form hO3 (fun x => rfl); have r1 := bel_cell hb3 p1; have rz := (hb3.frozen (p := ⟨M, 1, none⟩) hMl).trans pz)
    have hM3 := (hb3.block _ HMl.out).trans hM
    have hM4 := heap_setCell_same w3 M 1 _ cfT (.slice A3 f.l.length c3) hM3
    have HST : Hid (FSt w M R A3 c3 f f.l (w3.setCell ⟨M, 1, none⟩ (.slice A3 f.l.length c3))) := Lib.hid {
      m0 := (cell_of_row _ _ 0 _ _ (0, 0) hM4).trans rfl
      m1 := (cell_of_row _ _ 1 _ _ (0, 0) hM4).trans rfl
      r := by rw [heap_setCell_other _ _ _ _ (by have := HMR.out; show R ≠ M; omega)]; exact (hb3.block _ (lt_of_cell2 HN2.out)).trans HN2.out
      sam := rfl
      row := by
        rcases hform with h | ⟨g, rfl, hg1, hg2, hg3, hg4⟩
        · exact .inl h
        · have hgM : g ≠ M := by have := HMl.out; omega
          have hgR : g ≠ R := by have := HMR.out; have := HMl.out; omega
          refine .inr ⟨g, rfl, hgM, hgR, Nat.le_trans HB2.out.size hg1, ⟨fun i b j u hi hu => ?_, fun j => by rw [World.frozen?_setCell]; exact hg4 j, by simpa using hg2, fun b hb => ⟨?_, ?_⟩⟩⟩
          · rw [World.cell?_setCell_other _ _ _ _ (by intro e; simp only [Addr.mk.injEq] at e; exact hgM e.1.symm)]
            exact hg3 i b j u hi hu
          · refine RowL.other ((HFL.out.2 b hb).more hb3) ?_ _ _
            rcases HOR.out b hb with h | h
            · exact .inl h
            · exact .inr (fun g' o e => by have := h g' o e; have := HB1.out.size; have := HMR.out; have := HR.out; omega)
          · rcases HOR.out b hb with h | h
            · exact .inl h
            · exact .inr (fun g' o e => by have := h g' o e; have := HB2.out.size; omega)
      off := fun b hb => by
        rcases HOR.out b hb with h | h
        · exact .inl h
        · exact .inr (fun g' o e => by have := h g' o e; have := HR.out; omega)
      bel := (HB2.out.trans (hb3.mono HB2.out.size)).setCell (p := ⟨M, 1, none⟩) (by have := HMR.out; have := HR.out; show w.heap.size ≤ M; omega) _ }
    clear hform hO3 r1 rz hM3 hM4 hb3 p0 p1 pz hMl hM KL hbM
    generalize w3.setCell ⟨M, 1, none⟩ (.slice A3 f.l.length c3) = w4 at *
    have x1 := HST.out.m1
    obtain ⟨n, hn'⟩ : ∃ n, n = f.l.length := ⟨_, rfl⟩
    have HNN := Lib.hid hn'
    rw [← hn'] at hlen x1 ⊢
    clear hn'
    go_wp2
    clear x1
    go_loopw [26] (fun vi W => ∃ (k' : Nat) (L : List Cb), k' ≤ n ∧ vi = .int .i64 k' ∧ Hid (FSt w M R A3 c3 f L W)) (fun vi _ => n - (intOf vi).toNat)
    case atStart => exact ⟨0, _, Nat.zero_le _, rfl, HST⟩
    case round =>
      obtain ⟨k', L, hk', rfl, HL⟩ := hrel
      clear HST
      have HLn : Hid (L.length = n) := Lib.hid (by rw [HNN.out]; exact sam_len HL.out.sam)
      by_cases hlt : k' < n
      · obtain ⟨b, hb⟩ : ∃ b, L[k']? = some b := ⟨_, List.getElem?_eq_getElem (by have := HLn.out; omega)⟩
        have hrow := HL.out.row
        rcases hrow with h | ⟨G, rfl, hGM, hGR, hG, hrow⟩
        · exfalso; have := HLn.out; rw [h] at this; simp at this; omega
        have i3 : (k' : Int) < (n : Int) := by omega
        have x1 := HL.out.m1
        rw [← HNN.out] at x1
        have y3 := hrow.cell k' b 3 _ hb rfl
        have yz := hrow.froz (k' * 4 + 3)
        have hlb : b.l.length ≤ 30 := by
          obtain ⟨b0, hb0⟩ : ∃ b0, f.l[k']? = some b0 := ⟨_, List.getElem?_eq_getElem (by have := HNN.out; omega)⟩
          have he := sam_at HL.out.sam hb hb0
          have h1 := (HOF.out.cab b0 (List.mem_of_getElem? hb0)).len
          have h2 : b.l = b0.l := congrArg (fun p => p.2.2.2) he
          rw [h2]; exact h1
        have KC : Hid (∀ W, SW wr W → Calls Tryz.prog 92 #[.slice b.A b.l.length b.c] W fun e w' => ∃ A' c', e = .returned (.slice A' b.l.length c') ∧ (ClL w' (.slice A' b.l.length c') b.l ∧ (b.l = [] ∨ ∀ g o, A' = some ⟨g, o, none⟩ → wr.heap.size ≤ g)) ∧ SW wr w') := Lib.hid (fun W h => (cloneCl_any b.A b.c b.l W (by omega) ((hrow.cls b (List.mem_of_getElem? hb)).1.more h)).mono (by
          rintro e w' ⟨v', rfl, hO, hbb⟩
          obtain ⟨A', c', rfl, hf⟩ := own_form hO (fun x => rfl)
          refine ⟨A', c', rfl, ⟨hO.rowL (fun x => rfl), ?_⟩, Below.trans h (Below.mono hbb h.size)⟩
          rcases hf with hf | ⟨g, rfl, hg, _⟩
          · exact .inl hf
          · exact .inr (fun g' o e => by cases e; exact Nat.le_trans h.size hg)))
        have X1 := Lib.hid (fun W (h : SW wr W) => bel_get x1 _ h)
        have Y3 := Lib.hid (fun W (h : SW wr W) => bel_get y3 _ h)
        have YZ : Hid (∀ W, SW wr W → W.frozen? ⟨G, k' * 4 + 3, none⟩ = false) := Lib.hid (fun W h => (Below.frozen h (p := ⟨G, k' * 4 + 3, none⟩) hrow.lt).trans yz)
        have HROW := Lib.hid hrow
        have HBB := Lib.hid hb
        have hk8 : k' < 8 := by omega
        clear hb hrow
        go_upto_region 9 with fail
        go_region_with (go_at_call 92; refine (KC.out _ (SW.drew _)).mono ?_; rintro e w8 ⟨A8, c8, rfl, hA8, hS8⟩; have x8 := X1.out _ hS8; have y8 := Y3.out _ hS8; have z8 := YZ.out _ hS8)
        all_goals
          have HY : Hid (FSt w M R (some ⟨G, 0, none⟩) c3 f (L.set k' { b with A := A8, c := c8 }) (w8.setCell ⟨G, k' * 4 + 3, none⟩ (.slice A8 b.l.length c8))) := Lib.hid (HL.out.step hS8 hGM hGR hG HROW.out HBB.out hA8.1 hA8.2)
          clear x8 y8 z8 hA8 hS8
          go_wp2
          go_roundw
          case rel => exact ⟨k' + 1, _, by omega, by go_num, HY⟩
          case measure => simp [intOf]; omega
      · have hkn : ¬ (k' : Int) < (n : Int) := by omega
        have x0 := HL.out.m0
        have x1 := HL.out.m1
        rw [← HNN.out] at x1
        obtain ⟨n0, n1, m0, m1⟩ := row2_cells HL.out.r
        have hx := S2.heap HL.out.r (.string f.equip) (.slice A3 n c3)
        have hbt := S2.but wr R (.string f.equip) (.slice A3 n c3)
        have hbw : Below w.heap.size w ((wr.setCell ⟨R, 0, none⟩ (.string f.equip)).setCell ⟨R, 1, none⟩ (.slice A3 n c3)) := HL.out.bel.trans (hbt.below HL.out.bel.size (fun q hq => by have := HR.out; omega))
        have hcl : CbL wr (.slice A3 L.length c3) L := by
          rcases HL.out.row with h | ⟨G, h, _, _, _, hrow⟩
          · rw [h]; exact ⟨⟨_, _, rfl, .inl rfl⟩, fun b hb => by cases hb⟩
          · rw [h]; exact hrow.cbL c3
        have hAR : L = [] ∨ ∀ g o, A3 = some ⟨g, o, none⟩ → g ≠ R := by
          rcases HL.out.row with h | ⟨G, h, _, hGR, _, _⟩
          · exact .inl h
          · exact .inr (fun g o e => by rw [h] at e; cases e; exact hGR)
        have hAt : CfAt ((wr.setCell ⟨R, 0, none⟩ (.string f.equip)).setCell ⟨R, 1, none⟩ (.slice A3 n c3)) ⟨f.equip, A3, c3, L⟩ := (hcl.other hAR HL.out.off 0 _).other hAR HL.out.off 1 _
        have hSam : SamC ⟨f.equip, A3, c3, L⟩ f := ⟨rfl, HL.out.sam⟩
        obtain ⟨c0, c1, _, _⟩ := row2_cells hx
        have HX := Lib.hid (And.intro hAt (And.intro hSam hbw))
        clear hx hbt hbw hAt hcl hAR hSam HL
        go_wp2
        refine bodyPost_ret (v := .tuple #[.agg #[.string f.equip, .slice A3 n c3], .bool true]) ?_ rfl ⟨⟨⟨f.equip, A3, c3, L⟩, by rw [HFi.out, ← HLn.out]; rfl, HX.out.1, by rw [HFi.out]; exact HX.out.2.1⟩, HX.out.2.2⟩
        generalize (wr.setCell ⟨R, 0, none⟩ (.string f.equip)).setCell ⟨R, 1, none⟩ (.slice A3 n c3) = WW at c0 c1 ⊢
        simp [results, Tryz.results42, go_sem, c0, c1]
end Go.Proofs.YtjmahmeionakaaaGreatDoor
