/- Right numbers of seats; the booking limits as a row of one's own. -/
import Derived.Test.YtnakdacnfbgpnaaNesP
import Derived.Deep.OwnRows
import Derived.Deep.LoopGhost
import Derived.BigQuiet
import Derived.Deep.CutRange
import Derived.Deep.CutBlock
namespace Go.Proofs.Ytnakdacnfbgpnaa
open Go.RowKit Go.Shelf
set_option linter.unusedSimpArgs false
set_option linter.unusedVariables false

/-- the first place of which p says true -/
def idxQ {α : Type} (p : α → Bool) : List α → Int
  | [] => -1
  | a :: r => if p a = true then 0 else if idxQ p r < 0 then -1 else idxQ p r + 1
theorem idxQ_find {α : Type} (p : α → Bool) : ∀ l : List α, (idxQ p l = -1 ∧ l.find? p = none ∧ ∀ (j : Nat) (x : α), l[j]? = some x → p x = false) ∨ ∃ (k : Nat) (a : α), idxQ p l = (k : Int) ∧ l[k]? = some a ∧ l.find? p = some a ∧ k < l.length ∧ p a = true ∧ ∀ (j : Nat) (x : α), j < k → l[j]? = some x → p x = false
  | [] => .inl ⟨rfl, rfl, fun j x h => by simp at h⟩
  | a :: r => by
    cases h : p a
    · rcases idxQ_find p r with ⟨h1, h2, h3⟩ | ⟨k, x, h1, h2, h3, h4, h5, h6⟩
      · left
        refine ⟨by simp [idxQ, h, h1], by simp [List.find?_cons, h, h2], fun j x hx => ?_⟩
        cases j with
        | zero => simp at hx; subst hx; exact h
        | succ j => exact h3 j x (by simpa using hx)
      · right
        refine ⟨k + 1, x, ?_, by simpa using h2, by simp [List.find?_cons, h, h3], by simpa using h4, h5, fun j y hj hy => ?_⟩
        · simp only [idxQ, h, h1]
          rw [if_neg (by simp), if_neg (by omega)]
          omega
        · cases j with
          | zero => simp at hy; subst hy; exact h
          | succ j => exact h6 j y (by omega) (by simpa using hy)
    · right
      exact ⟨0, a, by simp [idxQ, h], by simp, by simp [List.find?_cons, h], by simp, h, fun j y hj => absurd hj (Nat.not_lt_zero _)⟩
theorem idxQ_yes {α : Type} {p : α → Bool} {l : List α} {k : Nat} {a : α} (h : ∀ (j : Nat) (x : α), j < k → l[j]? = some x → p x = false) (hk : l[k]? = some a) (hp : p a = true) : idxQ p l = (k : Int) := by
  rcases idxQ_find p l with ⟨_, _, h3⟩ | ⟨m, b, h1, h2, _, _, h5, h6⟩
  · rw [h3 k a hk] at hp; cases hp
  · have : m = k := by
      rcases Nat.lt_trichotomy m k with hlt | he | hlt
      · rw [h m b hlt h2] at h5; cases h5
      · exact he
      · rw [h6 k a hlt hk] at hp; cases hp
    rw [h1, this]
theorem idxQ_no {α : Type} {p : α → Bool} {l : List α} (h : ∀ (j : Nat) (x : α), l[j]? = some x → p x = false) : idxQ p l = -1 := by
  rcases idxQ_find p l with ⟨h1, _, _⟩ | ⟨m, b, _, h2, _, _, h5, _⟩
  · exact h1
  · rw [h m b h2] at h5; cases h5

set_option maxHeartbeats 4000000 in
set_option maxRecDepth 100000 in
theorem idxI_any (g : Nat) (cb : Array Value) (A : Option Addr) (c : Nat) (l : List Int) (p : Int → Bool) (w : World) (eg : ∀ args w, (callFunc g args).run Try.prog w = .ok (.enter g args) w) (hl : l.length ≤ 1000) (hL : RowL 1 encI w (.slice A l.length c) l)
    (hf : ∀ (a : Int) (W : World), a ∈ l → Below w.heap.size w W → Calls Try.prog g (#[.int .i64 a] ++ cb) W fun e w' => e = .returned (.bool (p a)) ∧ Below W.heap.size W w') :
    Calls Try.prog 45 #[.slice A l.length c, .func (.func g) #[] cb] w fun e w' => e = .returned (.int .i64 (idxQ p l)) ∧ Below w.heap.size w w' := by
  have HF := Lib.hid hf
  have HI : Hid (∀ (k : Nat) (a : Int), (∀ (j : Nat) (x : Int), j < k → l[j]? = some x → p x = false) → l[k]? = some a → p a = true → idxQ p l = (k : Int)) := Lib.hid (fun k a => idxQ_yes)
  have HN : Hid ((∀ (j : Nat) (x : Int), l[j]? = some x → p x = false) → idxQ p l = -1) := Lib.hid idxQ_no
  have HL := Lib.hid hL
  clear hf hL
  generalize idxQ p l = r at *
  go_enter Try.func45, Try.ntmps45
  go_wp2
  go_loopw [8] (fun vi wr => ∃ k : Nat, k ≤ l.length ∧ vi = .int .i64 k ∧ Hid (∀ (j : Nat) (x : Int), j < k → l[j]? = some x → p x = false) ∧ Below w.heap.size w wr) (fun vi _ => l.length - (intOf vi).toNat)
  case atStart => exact ⟨0, Nat.zero_le _, rfl, Lib.hid (fun j x hj => absurd hj (Nat.not_lt_zero _)), Below.refl _ _⟩
  case round =>
    obtain ⟨k, hk, rfl, HK, hb⟩ := hrel
    by_cases hlt : k < l.length
    · obtain ⟨a, hka⟩ : ∃ a, l[k]? = some a := ⟨_, List.getElem?_eq_getElem hlt⟩
      obtain ⟨b, off, e1, hgl, ha⟩ := row_get (HL.out.more hb) hka
      cases e1
      have i2 : (k : Int) < (l.length : Int) := by omega
      have z0 := ha 0 _ rfl
      rw [Nat.mul_one, Nat.add_zero] at z0
      have hc := HF.out a wr (List.mem_of_getElem? hka) hb
      clear ha hgl
      cases hp : p a <;> rw [hp] at hc
      · have HP := Lib.hid hp
        have HA := Lib.hid hka
        clear hp hka
        go_wp2_with (refine hc.mono ?_; rintro e w' ⟨rfl, hb'⟩)
        go_roundw
        case rel =>
          refine ⟨k + 1, by omega, by go_num, Lib.hid (fun j x hj hx => ?_), hb.trans (hb'.mono hb.size)⟩
          by_cases hjk : j = k
          · subst hjk
            rw [HA.out] at hx
            cases hx
            exact HP.out
          · exact HK.out j x (by omega) hx
        case measure => simp [intOf]; omega
      · have HR := Lib.hid (HI.out k a HK.out hka hp)
        clear hp hka
        go_wp2_with (refine hc.mono ?_; rintro e w' ⟨rfl, hb'⟩)
        go_ret
        exact ⟨by rw [HR.out]; rfl, hb.trans (hb'.mono hb.size)⟩
    · have HR := Lib.hid (HN.out (fun j x hx => HK.out j x (by have := (List.getElem?_eq_some_iff.1 hx).1; omega) hx))
      go_wp2
      go_ret
      exact ⟨by rw [HR.out]; rfl, hb⟩

set_option maxRecDepth 100000 in
set_option maxHeartbeats 8000000 in
theorem limits_own (b : Cb) (w : World) (hb : CbAt w b) (hP : LimP b) : Calls Try.prog 36 #[aggCb b] w fun e w' => ∃ g c, e = .returned (.slice (some ⟨g, 0, none⟩) b.l.length c) ∧ w.heap.size ≤ g ∧ Row w' g (tab (limA b) b.l.length) ∧ Below w.heap.size w w' := by
  have hlen := hP.len
  obtain ⟨s1, s2, s3, s4⟩ := sizB_in hP.siz
  have HP := Lib.hid hP
  obtain ⟨i0, hi, hz0, hz1, hz2⟩ := info_parts intT
  have HI := Lib.hid hi
  have HZ0 := Lib.hid hz0
  have HZ1 := Lib.hid hz1
  have HZ2 := Lib.hid hz2
  obtain ⟨A, hA⟩ : ∃ A, A = b.A := ⟨_, rfl⟩
  have HB : Hid (ClL w (.slice A b.l.length b.c) b.l) := Lib.hid (by rw [hA]; exact hb)
  obtain ⟨vs, hvs⟩ : ∃ vs : List Value, vs = [.string b.name, .int .i64 b.seats, .int .i64 b.over, .slice A b.l.length b.c] := ⟨_, rfl⟩
  have KA : Hid (∀ W, Calls Try.prog 46 #[.agg #[.string b.name, .int .i64 b.seats, .int .i64 b.over, .slice A b.l.length b.c]] W fun e w' => e = .returned (.int .i64 (b.seats + b.over)) ∧ Below W.heap.size W w') := Lib.hid (fun W => by rw [hA]; exact auth_any b W hP.siz)
  have hbA := bel_alloc w (.cells #[.string b.name, .int .i64 b.seats, .int .i64 b.over, .slice A b.l.length b.c] cbT)
  have hbB := bel_alloc (w.alloc (.cells #[.string b.name, .int .i64 b.seats, .int .i64 b.over, .slice A b.l.length b.c] cbT)) (.cells (madeCells #[.int .i64 0] b.l.length) 3)
  have q0 : ∀ j y, vs[j]? = some y → ((w.alloc (.cells #[.string b.name, .int .i64 b.seats, .int .i64 b.over, .slice A b.l.length b.c] cbT)).alloc (.cells (madeCells #[.int .i64 0] b.l.length) 3)).cell? ⟨w.heap.size, j, none⟩ = some y := fun j y hy => bel_cell hbB ((cells_new w _ cbT j).trans (by rw [← hy, hvs]; simp))
  have qr := Row.made (w.alloc (.cells #[.string b.name, .int .i64 b.seats, .int .i64 b.over, .slice A b.l.length b.c] cbT)) b.l.length 3
  rw [World.size_alloc] at qr
  obtain ⟨Z, hZ⟩ : ∃ Z, Z = w.heap.size := ⟨_, rfl⟩
  have LW : LimW w Z (Z + 1) vs (tab (fun j => if j < 0 then limA b j else 0) b.l.length) ((w.alloc (.cells #[.string b.name, .int .i64 b.seats, .int .i64 b.over, .slice A b.l.length b.c] cbT)).alloc (.cells (madeCells #[.int .i64 0] b.l.length) 3)) := ⟨by rw [hZ]; exact q0, by rw [hZ, tab_zero]; exact qr, hbA.trans (hbB.mono hbA.size)⟩
  have y3 := (cells_new w #[.string b.name, .int .i64 b.seats, .int .i64 b.over, .slice A b.l.length b.c] cbT 3).trans (show _ = some (Value.slice A b.l.length b.c) from rfl)
  clear hb hi hz0 hz1 hz2 hbA hbB q0 qr hP
  rw [show aggCb b = .agg #[.string b.name, .int .i64 b.seats, .int .i64 b.over, .slice A b.l.length b.c] by rw [hA]]
  have HVS := Lib.hid hvs
  clear hA hvs
  obtain ⟨n, hn⟩ : ∃ n, n = b.l.length := ⟨_, rfl⟩
  have HN := Lib.hid hn
  rw [← hn] at hlen LW KA HB y3 HVS ⊢
  clear hn
  go_enter Try.func36, Try.ntmps36
  go_upto_region 2 with (at_make; refine wpList_make_row _ rfl _ _ 25 rfl 3 i0 (.int .i64 0) Try.underlying25 HI.out HZ0.out HZ1.out rfl _ _ n rfl rfl (by rw [HZ2.out]; omega) (by omega) ?_)
  rw [← hZ]
  have HZ := Lib.hid hZ
  have HLW := Lib.hid LW
  generalize (w.alloc (.cells #[.string b.name, .int .i64 b.seats, .int .i64 b.over, .slice A n b.c] cbT)).alloc (.cells (madeCells #[.int .i64 0] n) 3) = w5 at *
  clear hZ LW y3
  have b0 := HLW.out.box 0 _ (by rw [HVS.out]; rfl)
  have b1 := HLW.out.box 1 _ (by rw [HVS.out]; rfl)
  have b2 := HLW.out.box 2 _ (by rw [HVS.out]; rfl)
  have b3 := HLW.out.box 3 _ (by rw [HVS.out]; rfl)
  go_upto_region 3 with (go_at_call 46; refine (KA.out _).mono ?_; rintro e w6 ⟨rfl, hb6⟩)
  have HLW := Lib.hid (HLW.out.more hb6)
  have b3 := bel_cell hb6 b3
  clear b0 b1 b2 hb6
  go_wp2
  clear b3
  go_loopw [4, 16] (fun s4 vi wr => ∃ k : Nat, k ≤ n ∧ vi = .int .i64 k ∧ s4 = .int .i64 (limA b k) ∧ Hid (LimW w Z (Z + 1) vs (tab (fun j => if j < k then limA b j else 0) n) wr)) (fun _ vi _ => n - (intOf vi).toNat)
  case atStart => exact ⟨0, Nat.zero_le _, rfl, rfl, HLW⟩
  case round =>
    obtain ⟨k, hk, rfl, rfl, HK⟩ := hrel
    clear HLW
    by_cases hlt : k < n
    · obtain ⟨x, hx⟩ : ∃ x, b.l[k]? = some x := ⟨_, List.getElem?_eq_getElem (by have := HN.out; omega)⟩
      obtain ⟨bb, off, e1, hgl, hc⟩ := row_get (HB.out.more HK.out.bel) hx
      cases e1
      have i2 : (k : Int) < (n : Int) := by omega
      have d0 := hc 0 _ rfl
      have d1 := hc 1 _ rfl
      rw [Nat.add_zero] at d0
      obtain ⟨p1, p2⟩ := HP.out.pro x (List.mem_of_getElem? hx)
      have HX : Hid (limA b (k + 1) = b.seats + b.over - x.prot) := Lib.hid (by simp only [limA, hx])
      have HNB : Hid (LimW w Z (Z + 1) vs (tab (fun j => if j < k + 1 then limA b j else 0) n) ((wr.alloc (.cells #[.string x.code, .int .i64 x.prot] clT)).setCell ⟨Z + 1, k, none⟩ (.int .i64 (limA b k)))) := Lib.hid (by
        have h := (HK.out.more (bel_alloc wr (.cells #[.string x.code, .int .i64 x.prot] clT))).set (by omega) (by have := HZ.out; omega) k (by rw [tab_len]; exact hlt) (limA b k)
        rw [tab_put n k _ hlt] at h
        exact h)
      have hr0 : (wr.alloc (.cells #[.string x.code, .int .i64 x.prot] clT)).cell? ⟨Z + 1, k, none⟩ = some (.int .i64 0) := by
        have h := (HK.out.row.alloc (.cells #[.string x.code, .int .i64 x.prot] clT)).cell k (by rw [tab_len]; exact hlt)
        simpa [tab] using h
      have hr1 : (wr.alloc (.cells #[.string x.code, .int .i64 x.prot] clT)).frozen? ⟨Z + 1, k, none⟩ = false := (HK.out.row.alloc (.cells #[.string x.code, .int .i64 x.prot] clT)).froz k (by rw [tab_len]; exact hlt)
      have n1 : ((wr.alloc (.cells #[.string x.code, .int .i64 x.prot] clT)).setCell ⟨Z + 1, k, none⟩ (.int .i64 (limA b k))).cell? ⟨wr.heap.size, 1, none⟩ = some (.int .i64 x.prot) := by
        rw [World.cell?_setCell_other _ _ _ _ (by intro e; simp only [Addr.mk.injEq] at e; have := HK.out.row.lt; omega)]
        exact cells_new wr _ clT 1
      obtain ⟨NB, hNB⟩ : ∃ NB, NB = wr.heap.size := ⟨_, rfl⟩
      rw [← hNB] at n1
      clear hc hgl hx
      generalize limA b k = lk at *
      go_upto_region 7 with fail
      rw [← hNB]
      clear d0 d1 hr0 hr1 hNB
      generalize (wr.alloc (.cells #[.string x.code, .int .i64 x.prot] clT)).setCell ⟨Z + 1, k, none⟩ (.int .i64 lk) = w7 at *
      have g0 : ∀ z : Wd (SW w7), z.w.cell? ⟨Z, 0, none⟩ = some (Value.string b.name) := fun z => bel_get (HNB.out.box 0 _ (by rw [HVS.out]; rfl)) _ z.ok
      have g1 : ∀ z : Wd (SW w7), z.w.cell? ⟨Z, 1, none⟩ = some (Value.int .i64 b.seats) := fun z => bel_get (HNB.out.box 1 _ (by rw [HVS.out]; rfl)) _ z.ok
      have g2 : ∀ z : Wd (SW w7), z.w.cell? ⟨Z, 2, none⟩ = some (Value.int .i64 b.over) := fun z => bel_get (HNB.out.box 2 _ (by rw [HVS.out]; rfl)) _ z.ok
      have g3 : ∀ z : Wd (SW w7), z.w.cell? ⟨Z, 3, none⟩ = some (Value.slice (some ⟨bb, off, none⟩) n b.c) := fun z => bel_get (HNB.out.box 3 _ (by rw [HVS.out]; rfl)) _ z.ok
      have g4 : ∀ z : Wd (SW w7), z.w.cell? ⟨NB, 1, none⟩ = some (Value.int .i64 x.prot) := fun z => bel_get n1 _ z.ok
      have KQ : Hid (∀ W, SW w7 W → Calls Try.prog 46 #[.agg #[.string b.name, .int .i64 b.seats, .int .i64 b.over, .slice (some ⟨bb, off, none⟩) n b.c]] W fun e w' => e = .returned (.int .i64 (b.seats + b.over)) ∧ SW w7 w') := Lib.hid (fun W h => (KA.out W).mono (by rintro e w' ⟨rfl, hb⟩; exact ⟨rfl, Below.trans h (Below.mono hb h.size)⟩))
      have hS0 : SW w7 w7.drew := SW.drew _
      have hw : IntKind.i64.wrap (b.seats + b.over - x.prot) = b.seats + b.over - x.prot := by rw [IntKind.wrap_i64]; omega
      have hNe : Nonempty (Wd (SW w7)) := ⟨⟨_, hS0⟩⟩
      refine quietS (S := SW w7) (by kernel_rfl) (by kernel_rfl) (hS0) ?_
      repeat (first | go_big_quiet_skip | (go_big_quiet_want; go_big_quiet_op; first | go_big_quiet_on | go_big_quiet_call (((go_at_call 46; exact quiet_S (KQ.out _ (Wd.ok _)))))))
      refine wpQuiet_nil ?_
      rintro W ⟨⟨_, hW⟩, rfl⟩
      have HY := Lib.hid (HNB.out.more hW)
      clear g0 g1 g2 g3 g4 hW n1
      go_wp2
      go_roundw
      case rel => exact ⟨k + 1, by omega, by go_num, by rw [HX.out], HY⟩
      case measure => simp [intOf]; omega
    · have HE : Hid (k = n) := Lib.hid (by omega)
      have HR : Hid (w.heap.size ≤ Z + 1 ∧ Row wr (Z + 1) (tab (limA b) n) ∧ Below w.heap.size w wr) := Lib.hid (by
        have h := HK.out.row
        rw [HE.out, tab_full] at h
        exact ⟨by have := HZ.out; omega, h, HK.out.bel⟩)
      go_wp2
      go_ret
      exact ⟨_, _, rfl, HR.out⟩

theorem idxQ_all (s : List Int) : decide (0 ≤ idxQ nBad s) = !(s.all nOk) := by
  rcases idxQ_find nBad s with ⟨h1, _, h3⟩ | ⟨k, a, h1, h2, _, _, h5, _⟩
  · rw [h1]
    have : s.all nOk = true := by
      rw [List.all_eq_true]
      intro x hx
      obtain ⟨j, hj, rfl⟩ := List.getElem_of_mem hx
      have := h3 j _ (List.getElem?_eq_getElem hj)
      rw [nBad_ok] at this
      simpa using this
    rw [this]; rfl
  · rw [h1]
    have : s.all nOk = false := by
      rw [Bool.eq_false_iff]
      intro h
      have := (List.all_eq_true.1 h) a (List.mem_of_getElem? h2)
      rw [nBad_ok, this] at h5
      cases h5
    rw [this]; simp
set_option maxHeartbeats 1000000 in
theorem isBad_any (n : Int) (w : World) : Calls Try.prog 35 #[.int .i64 n] w fun e w' => e = .returned (.bool (nBad n)) ∧ Below w.heap.size w w' := by
  by_cases h : n < 0
  · have h1 : nBad n = true := by unfold nBad; simp [h]
    rw [h1]
    go_enter Try.func35, Try.ntmps35
    go_wp2
    go_ret
    exact ⟨rfl, Below.refl _ _⟩
  · have h1 : nBad n = decide (9999 < n) := by unfold nBad; simp [h]
    rw [h1]
    go_enter Try.func35, Try.ntmps35
    go_wp2
    go_ret
    exact ⟨rfl, Below.refl _ _⟩
set_option maxHeartbeats 1000000 in
theorem anyBad_any (A : Option Addr) (c : Nat) (s : List Int) (w : World) (hl : s.length ≤ 1000) (hL : IntR w (.slice A s.length c) s) :
    Calls Try.prog 34 #[.slice A s.length c, .func (.func 35) #[] #[]] w fun e w' => e = .returned (.bool (!(s.all nOk))) ∧ Below w.heap.size w w' := by
  have K := Lib.hid (idxI_any 35 #[] A c s nBad w (enters_of Try.func35 (by kernel_rfl) rfl) hl hL (fun a W _ _ => isBad_any a W))
  have HQ := Lib.hid (idxQ_all s)
  generalize idxQ nBad s = r at *
  clear hL
  go_enter Try.func34, Try.ntmps34
  go_wp2_with (go_at_call 45; refine K.out.mono ?_; rintro e w' ⟨rfl, hb⟩)
  go_ret
  exact ⟨by rw [← HQ.out]; rfl, hb⟩
set_option maxRecDepth 100000 in
set_option maxHeartbeats 2000000 in
theorem isRight_any (b : Cb) (A : Option Addr) (c : Nat) (s : List Int) (w : World) (hl : s.length ≤ 1000) (hL : IntR w (.slice A s.length c) s) :
    Calls Try.prog 23 #[aggCb b, .slice A s.length c] w fun e w' => e = .returned (.bool (rgtB b s)) ∧ Below w.heap.size w w' := by
  have hb0 := bel_alloc w (.cells #[.string b.name, .int .i64 b.seats, .int .i64 b.over, .slice b.A b.l.length b.c] cbT)
  have q3 := (cells_new w #[.string b.name, .int .i64 b.seats, .int .i64 b.over, .slice b.A b.l.length b.c] cbT 3).trans (show _ = some (Value.slice b.A b.l.length b.c) from rfl)
  have KC := Lib.hid (anyBad_any A c s _ hl (hL.more hb0))
  have HB := Lib.hid hb0
  clear hL hb0
  by_cases h : s.length = b.l.length
  · have e1 : ((s.length : Int) == (b.l.length : Int)) = true := by simp [h]
    have HE : Hid (rgtB b s = s.all nOk) := Lib.hid (by unfold rgtB; simp [h])
    rw [HE.out]
    clear h HE
    generalize s.all nOk = r at *
    go_enter Try.func23, Try.ntmps23
    go_wp2_with (go_at_call 34; refine KC.out.mono ?_; rintro e w' ⟨rfl, hb⟩)
    go_ret
    exact ⟨by simp, HB.out.trans (hb.mono HB.out.size)⟩
  · have e1 : ((s.length : Int) == (b.l.length : Int)) = false := by simp; omega
    have HE : Hid (rgtB b s = false) := Lib.hid (by unfold rgtB; simp [h])
    rw [HE.out]
    clear h HE
    go_enter Try.func23, Try.ntmps23
    go_wp2_with (fail)
    go_ret
    exact ⟨rfl, HB.out⟩
set_option maxRecDepth 100000 in
set_option maxHeartbeats 2000000 in
theorem rright_any (b : Cb) (A : Option Addr) (c : Nat) (s : List Int) (w : World) (hl : s.length ≤ 1000) (hL : IntR w (.slice A s.length c) s) :
    Calls Try.prog 25 #[aggCb b, .slice A s.length c] w fun e w' => e = .returned (.bool (rgtB b s)) ∧ Below w.heap.size w w' := by
  have hb0 := bel_alloc w (.cells #[.string b.name, .int .i64 b.seats, .int .i64 b.over, .slice b.A b.l.length b.c] cbT)
  have q3 := (cells_new w #[.string b.name, .int .i64 b.seats, .int .i64 b.over, .slice b.A b.l.length b.c] cbT 3).trans (show _ = some (Value.slice b.A b.l.length b.c) from rfl)
  have HL := Lib.hid (hL.more hb0)
  have HB := Lib.hid hb0
  clear hL hb0
  go_enter Try.func25, Try.ntmps25
  go_upto_region 1 with fail
  generalize w.alloc (.cells #[.string b.name, .int .i64 b.seats, .int .i64 b.over, .slice b.A b.l.length b.c] cbT) = w5 at *
  go_wp2
  go_loop [5] (fun i => ∃ k : Nat, k ≤ s.length ∧ i = .int .i64 k ∧ Hid (∀ (j : Nat) (x : Int), j < k → s[j]? = some x → nOk x = true)) (fun i => s.length - (intOf i).toNat)
  case atStart => exact ⟨0, Nat.zero_le _, rfl, Lib.hid (fun j x hj => absurd hj (Nat.not_lt_zero _))⟩
  case round =>
    obtain ⟨k, hk, rfl, HK⟩ := hrel
    by_cases hlt : k < s.length
    · obtain ⟨x, hx⟩ : ∃ x, s[k]? = some x := ⟨_, List.getElem?_eq_getElem hlt⟩
      obtain ⟨bb, o, e1, z0⟩ := int_at HL.out hx
      subst e1
      have i2 : (k : Int) < (s.length : Int) := by omega
      cases hok : nOk x with
      | false =>
        have HE : Hid (rgtB b s = false) := Lib.hid (by
          unfold rgtB
          have : s.all nOk = false := by
            rw [Bool.eq_false_iff]
            intro h
            have := (List.all_eq_true.1 h) x (List.mem_of_getElem? hx)
            rw [hok] at this; cases this
          rw [this, Bool.and_false])
        have hb := nBad_ok x
        rw [hok] at hb
        by_cases h0 : x < 0
        · clear hx hb hok
          go_wp2
          go_ret
          exact ⟨by rw [HE.out]; rfl, HB.out⟩
        · have h1 : 9999 < x := by unfold nBad at hb; simp at hb; omega
          clear hx hb hok
          go_wp2
          go_ret
          exact ⟨by rw [HE.out]; rfl, HB.out⟩
      | true =>
        have hx1 : ¬ x < 0 ∧ ¬ 9999 < x := by unfold nOk at hok; simp at hok; omega
        obtain ⟨h0, h1⟩ := hx1
        have HX : Hid (∀ (j : Nat) (y : Int), j < k + 1 → s[j]? = some y → nOk y = true) := Lib.hid (fun j y hj hy => by
          by_cases e : j = k
          · subst e; rw [hx] at hy; cases hy; exact hok
          · exact HK.out j y (by omega) hy)
        clear hx hok
        go_wp2
        go_round
        case rel => exact ⟨k + 1, by omega, by go_num, HX⟩
        case measure => simp [intOf]; omega
    · have HE : Hid (rgtB b s = decide (s.length = b.l.length)) := Lib.hid (by
        unfold rgtB
        have : s.all nOk = true := by
          rw [List.all_eq_true]
          intro x hx
          obtain ⟨j, hj, rfl⟩ := List.getElem_of_mem hx
          exact HK.out j _ (by omega) (List.getElem?_eq_getElem hj)
        rw [this, Bool.and_true])
      go_wp2
      go_ret
      exact ⟨by rw [HE.out]; exact ret_bool (by rw [Bool.eq_iff_iff, beq_iff_eq, decide_eq_true_eq]; omega), HB.out⟩
end Go.Proofs.Ytnakdacnfbgpnaa
