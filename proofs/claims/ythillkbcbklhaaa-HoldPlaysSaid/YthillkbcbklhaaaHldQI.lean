/- What the law HoldPlays asks of a list of calls, and the two sets of holds side by side. -/
import Derived.Deep.QuietTactic
import Derived.BigQuiet
import Derived.Test.YthillkbcbklhaaaHldQH
namespace Go.Proofs.Ythillkbcbklhaaa
open Go.RowKit Go.Shelf Go.Maps Go.MapKept
set_option linter.unusedSimpArgs false
set_option linter.unusedVariables false

/-- the program's set and the specification's -/
structure PS (W : World) (B mb R n : Nat) (hs ks : List Hd) : Prop where
  p : HldAt W B mb n hs
  r : RefS W R ks
theorem PS.more {W W' : World} {B mb R n : Nat} {hs ks : List Hd} (h : PS W B mb R n hs ks) (hb : Below W.heap.size W W') : PS W' B mb R n hs ks := ⟨h.p.more hb, h.r.more hb⟩
theorem row_but {Q X : Nat → Prop} {α : Type} {sz : Nat} {enc : α → List Value} {W W' : World} {A : Option Addr} {l : List α} (h : RowIn Q sz enc W A l) (hz : ∀ x : α, ∃ u, (enc x)[0]? = some u) (hb : But W W' X)
    (hn : ∀ b o x u, (enc x)[0]? = some u → W.cell? ⟨b, o, none⟩ = some u → ¬ X b) : RowIn Q sz enc W' A l := by
  rcases h with h | ⟨b, o, e, h1, h2, h3⟩
  · exact .inl h
  · cases l with
    | nil => exact .inl rfl
    | cons x r =>
      obtain ⟨u, hu⟩ := hz x
      have hX : ¬ X b := hn b (o + 0 * sz + 0) x u hu (h3 0 x 0 u rfl hu)
      exact .inr ⟨b, o, e, h1, Nat.lt_of_lt_of_le h2 hb.size, fun i y j v hi hv => but_cell hb (h3 i y j v hi hv) hX⟩
theorem encD_hd (x : Lid) : ∃ u, (encD x)[0]? = some u := ⟨_, rfl⟩
theorem encH_hd (x : Hd) : ∃ u, (encH x)[0]? = some u := ⟨_, rfl⟩
theorem PS.prog {W W' : World} {B mb R n n' : Nat} {hs ks hs' : List Hd} (h : PS W B mb R n hs ks) (hb : But W W' (fun k => k = mb)) (hp : HldAt W' B mb n' hs') : PS W' B mb R n' hs' ks := by
  obtain ⟨A, c, hr⟩ := h.r
  have hm := h.p.map
  have hR : R ≠ mb := nomap_cell' hr.box hm
  refine ⟨hp, A, c, ?_⟩
  refine ⟨(hb.block R hr.lt hR).trans hr.blk, hr.cap, hr.form, row_but hr.rows encH_hd hb (fun b o x u _ hc => nomap_cell' hc hm), hr.srt, fun y hy => ⟨(hr.ok y hy).1, row_but (hr.ok y hy).2.1 encD_hd hb (fun b o x u _ hc => nomap_cell' hc hm), (hr.ok y hy).2.2⟩⟩
theorem cell_ref {W : World} {R : Nat} {A : Option Addr} {c : Nat} {ks : List Hd} (h : RefAt W R A c ks) {o : Nat} {u : Value} (hc : W.cell? ⟨R, o, none⟩ = some u) : u = .slice A ks.length c := by
  have hb := h.blk
  unfold World.cell? at hc
  rw [hb] at hc
  cases o with
  | zero => simp at hc; exact hc.symm
  | succ o => simp at hc
theorem PS.ref {W W' : World} {B mb R n : Nat} {hs ks ks' : List Hd} (h : PS W B mb R n hs ks) (hb : But W W' (fun k => k = R)) (hr' : RefS W' R ks') : PS W' B mb R n hs ks' := by
  obtain ⟨A, c, hr⟩ := h.r
  have hm := h.p.map
  have hR : R ≠ mb := nomap_cell' hr.box hm
  have hBR : B ≠ R := by
    intro e
    have h1 := h.p.box
    rw [e] at h1
    have := cell_ref hr h1
    cases this
  refine ⟨⟨but_cell hb h.p.box hBR, ?_, h.p.srt, fun y hy => ⟨(h.p.ok y hy).1, row_but (h.p.ok y hy).2.1 encD_hd hb (fun b o x u hu hc e => ?_), (h.p.ok y hy).2.2⟩⟩, hr'⟩
  · obtain ⟨es, cl, h1, h2⟩ := hm
    exact ⟨es, cl, (hb.block mb (Array.getElem?_eq_some_iff.1 h1).1 (fun e => hR e.symm)).trans h1, h2⟩
  · subst e
    have := cell_ref hr hc
    subst this
    unfold encD at hu
    simp at hu
theorem ins_len (x : Hd) (hs : List Hd) : (insH x hs).length = hs.length + 1 := by
  have := (ins_perm x hs).length_eq
  simpa using this
theorem drop_len (i : Int) (hs : List Hd) : (dropH hs i).length ≤ hs.length := by unfold dropH; exact List.length_filter_le _ _
theorem put_len (x : Hd) (hs : List Hd) : (putG hs x).length ≤ hs.length + 1 := by
  unfold putG
  split
  · rw [ins_len]; omega
  · omega
theorem ext_len (i m : Int) (hs : List Hd) : (extG hs i m).length ≤ hs.length + 1 := by
  unfold extG
  have := drop_len i hs
  split
  · split
    · rw [ins_len]; omega
    · omega
  · omega
theorem rest_len (m : Int) (hs : List Hd) : (restH m hs).length ≤ hs.length := by unfold restH; exact List.length_filter_le _ _
/-- a call that the law looks at -/
def SmA (a : Ah) : Prop := a.x.l.length ≤ 8
def BigR (l : List Ah) (w : World) (e : Ending) (w' : World) : Prop := ∃ b, e = .returned (.bool b) ∧ Below w.heap.size w w' ∧ (b = false → l.length ≤ 40 ∧ ∀ x ∈ l, SmA x)
set_option maxRecDepth 100000 in
theorem big16_any (A : Option Addr) (c : Nat) (l : List Ah) (w : World) (hl64 : l.length < 9223372036854775808) (hL : RowL 7 encAh w (.slice A l.length c) l) (hrd : ∀ x ∈ l, RdH w x.x) :
    Calls Try.prog 7 #[.slice A l.length c] w fun e w' => BigR l w e w' := by
  have HL := Lib.hid hL
  have HRD := Lib.hid hrd
  clear hL hrd
  by_cases hl : 40 < l.length
  · have j1 : (40 : Int) < (l.length : Int) := by omega
    go_enter Try.func7, Try.ntmps7
    go_wp2
    go_ret
    exact ⟨true, rfl, Below.refl _ _, fun h => by cases h⟩
  · have j1 : ¬ (40 : Int) < (l.length : Int) := by omega
    go_enter Try.func7, Try.ntmps7
    go_wp2
    go_loopw [3] (fun vi wr => ∃ k : Nat, k ≤ l.length ∧ vi = .int .i64 k ∧ Hid (Below w.heap.size w wr ∧ ∀ (j : Nat) (x : Ah), j < k → l[j]? = some x → SmA x)) (fun vi _ => l.length - (intOf vi).toNat)
    case atStart => exact ⟨0, Nat.zero_le _, rfl, Lib.hid ⟨Below.refl _ _, fun j x h => by omega⟩⟩
    case round =>
      obtain ⟨k, hk, rfl, HI⟩ := hrel
      by_cases hlt : k < l.length
      · obtain ⟨x, hx⟩ : ∃ x, l[k]? = some x := ⟨_, List.getElem?_eq_getElem hlt⟩
        obtain ⟨b, o, rfl, _, hc⟩ := row_get (RowL.more HL.out HI.out.1) hx
        have x3 := hc 3 _ rfl
        have x4 := hc 4 _ rfl
        have i1 : (0 : Int) ≤ (k : Int) := by omega
        have i2 : (k : Int) < (l.length : Int) := by omega
        have wr1 : IntKind.i64.wrap ((k : Int) + 1) = (k : Int) + 1 := IntWalk.i64_in _ (by omega)
        have HX := Lib.hid hx
        clear hc hx
        by_cases h8 : 8 < x.x.l.length
        · have j8 : decide ((8 : Int) < (x.x.l.length : Int)) = true := decide_eq_true (by omega)
          go_wp2
          go_ret
          exact ⟨true, rfl, HI.out.1, fun h => by cases h⟩
        · have j8 : decide ((8 : Int) < (x.x.l.length : Int)) = false := decide_eq_false (by omega)
          by_cases h9 : 100 < x.x.cls.size
          · have j9 : decide ((100 : Int) < (x.x.cls.size : Int)) = true := decide_eq_true (by omega)
            go_wp2
            go_ret
            exact ⟨true, rfl, HI.out.1, fun h => by cases h⟩
          · have j9 : decide ((100 : Int) < (x.x.cls.size : Int)) = false := decide_eq_false (by omega)
            have HE : Hid (Below w.heap.size w wr ∧ ∀ (j : Nat) (x : Ah), j < k + 1 → l[j]? = some x → SmA x) := Lib.hid ⟨HI.out.1, fun j y hj hy => by
              rcases Nat.lt_or_ge j k with h | h
              · exact HI.out.2 j y h hy
              · obtain rfl : j = k := by omega
                rw [HX.out] at hy
                cases hy
                unfold SmA
                omega⟩
            clear HI
            go_wp2
            go_roundw
            case rel => exact ⟨k + 1, by omega, by go_num, HE⟩
            case measure => simp [intOf]; omega
      · obtain rfl : k = l.length := by omega
        have i2 : ¬ (l.length : Int) < (l.length : Int) := by omega
        go_wp2
        go_ret
        exact ⟨false, rfl, HI.out.1, fun _ => ⟨by omega, fun y hy => by
          obtain ⟨j, hj, rfl⟩ := List.getElem_of_mem hy
          exact HI.out.2 j _ hj (List.getElem?_eq_getElem hj)⟩⟩
end Go.Proofs.Ythillkbcbklhaaa
