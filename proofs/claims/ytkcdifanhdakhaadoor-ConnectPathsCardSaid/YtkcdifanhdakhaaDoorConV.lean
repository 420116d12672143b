/- Walks of isAirport, checkChange, Valid, beside the reference's step. -/
import Derived.Test.YtkcdifanhdakhaaDoorConA
import Derived.Test.YtkcdifanhdakhaaDoorConB
import Derived.Test.YtkcdifanhdakhaaDoorPlaD
import Derived.Test.YtkcdifanhdakhaaDoorPlaY
import Derived.BigQuiet
import Derived.Deep.CutRange
namespace Go.Proofs.YtkcdifanhdakhaaDoor.Con
open Go.RowKit Go.Shelf
set_option linter.unusedSimpArgs false
set_option linter.unusedVariables false

def airB (p : PV) (s : ByteArray) : Bool := (findC p.l s).isSome
/-- the change from one segment to another -/
def chgP (p : PV) (l : List Cn) (x y : Sg) : Int :=
  if eqS y.f x.t then (if y.dep - x.arr < minC l x.t x.car y.car then 13 else 0)
  else if eqS (cityP p.l y.f) (cityP p.l x.t) then (if y.dep - x.arr < 240 then 13 else 0) else 15
def vAt (p : PV) (l : List Cn) (S : List Sg) (i : Nat) : Int :=
  if !(airB p (sA S i).f) || !(airB p (sA S i).t) then 14 else if (sA S i).arr ≤ (sA S i).dep then 13 else if i = 0 then 0 else chgP p l (sA S (i - 1)) (sA S i)
def vFr (p : PV) (l : List Cn) (S : List Sg) : Nat → Nat → Int
  | 0, _ => 0
  | n + 1, k => if vAt p l S k ≠ 0 then vAt p l S k else vFr p l S n (k + 1)
def valP (p : PV) (l : List Cn) (S : List Sg) : Int := if S.length < 1 ∨ 6 < S.length then 4 else vFr p l S S.length 0
structure OkV (p : PV) : Prop where
  len : p.l.length ≤ 40
  shs : ∀ a ∈ p.l, a.shs.length ≤ 300

set_option maxHeartbeats 4000000 in
theorem isAirport_any (p : PV) (s : ByteArray) (w : World) (ho : OkV p) (hL : AirL w p.A p.l) :
    Calls Tryd.prog 26 #[encP p, .string s] w fun e w' => e = .returned (.bool (airB p s)) ∧ Below w.heap.size w w' := by
  have hbx := bel_alloc w (.cells #[.slice p.A p.l.length p.ca, .slice p.D p.ds.length p.cd] placesT)
  have K := Lib.hid (find_any p s _ ho.len (hL.more hbx) ho.shs)
  have HA : Hid (airB p s = (findC p.l s).isSome) := Lib.hid rfl
  cases hf : findC p.l s with
  | none =>
    rw [hf] at K HA
    obtain ⟨A, ca, l, D, cd, ds⟩ := p
    dsimp only [FindR, encA, airZ] at *
    clear hL hf ho
    go_enter Tryd.func26, Tryd.ntmps26
    go_wp2_with (go_at_call 51; refine K.out.mono ?_; rintro e w1 ⟨hb1, rfl⟩)
    go_ret
    exact ⟨ret_bool (by rw [HA.out]; rfl), (hbx.trans (hb1.mono hbx.size)).alloc (by have := hbx.size; have := hb1.size; omega) _⟩
  | some a =>
    rw [hf] at K HA
    obtain ⟨A, ca, l, D, cd, ds⟩ := p
    obtain ⟨c0, c1, c2, c3, c4, c5, c6⟩ := a
    dsimp only [FindR, encA] at *
    clear hL hf ho
    go_enter Tryd.func26, Tryd.ntmps26
    go_wp2_with (go_at_call 51; refine K.out.mono ?_; rintro e w1 ⟨hb1, A', c', rfl, hsh⟩)
    go_ret
    exact ⟨ret_bool (by rw [HA.out]; rfl), (hbx.trans (hb1.mono hbx.size)).alloc (by have := hbx.size; have := hb1.size; omega) _⟩


set_option maxRecDepth 100000 in
set_option maxHeartbeats 8000000 in
theorem chg_any (p : PV) (v : Value) (ln : List Cn) (x y : Sg) (w : World) (ho : OkV p) (hL : AirL w p.A p.l) (hv : CnL w v ln) (hn : ln.length ≤ 1000) (hx : tmB x) (hy : tmB y) :
    Calls Tryd.prog 27 #[encP p, v, aggSg x, aggSg y] w fun e w' => e = .returned (.int .i64 (chgP p ln x y)) ∧ Below w.heap.size w w' := by
  have HC : Hid (chgP p ln x y = if (y.f.toList == x.t.toList) then (if y.dep - x.arr < minC ln x.t x.car y.car then 13 else 0) else if ((cityP p.l y.f).toList == (cityP p.l x.t).toList) then (if y.dep - x.arr < 240 then 13 else 0) else 15) := Lib.hid rfl
  obtain ⟨cf, hcf⟩ : ∃ c, c = cityP p.l y.f := ⟨_, rfl⟩
  obtain ⟨ct, hct⟩ : ∃ c, c = cityP p.l x.t := ⟨_, rfl⟩
  rw [← hcf, ← hct] at HC
  have hb1 := bel_alloc w (.cells #[.slice p.A p.l.length p.ca, .slice p.D p.ds.length p.cd] placesT)
  have hb2 := bel_alloc (w.alloc (.cells #[.slice p.A p.l.length p.ca, .slice p.D p.ds.length p.cd] placesT)) (.cells #[.string x.car, .int .i64 x.num, .int .i64 x.day, .string x.f, .string x.t, .int .i64 x.dep, .int .i64 x.arr] sgT)
  have hb3 := bel_alloc ((w.alloc (.cells #[.slice p.A p.l.length p.ca, .slice p.D p.ds.length p.cd] placesT)).alloc (.cells #[.string x.car, .int .i64 x.num, .int .i64 x.day, .string x.f, .string x.t, .int .i64 x.dep, .int .i64 x.arr] sgT)) (.cells #[.string y.car, .int .i64 y.num, .int .i64 y.day, .string y.f, .string y.t, .int .i64 y.dep, .int .i64 y.arr] sgT)
  have hb23 := hb2.trans (hb3.mono hb2.size)
  have hbx := hb1.trans (hb23.mono hb1.size)
  have KM := Lib.hid (fun W (h : Below w.heap.size w W) => minutes_any v ln x.t x.car y.car W (hv.more h) hn)
  have KF := Lib.hid (fun W (h : Below w.heap.size w W) => city_any p y.f W ho.len (hL.more h))
  have KT := Lib.hid (fun W (h : Below w.heap.size w W) => city_any p x.t W ho.len (hL.more h))
  rw [← hcf] at KF
  rw [← hct] at KT
  obtain ⟨A, ca, l, D, cd, ds⟩ := p
  obtain ⟨B, cb, rfl, _⟩ := id hv
  obtain ⟨x0, x1, x2, x3⟩ := hx
  obtain ⟨y0, y1, y2, y3⟩ := hy
  dsimp only at *
  have p0 := bel_cell hb23 ((cells_new w #[.slice A l.length ca, .slice D ds.length cd] placesT 0).trans (show _ = some (Value.slice A l.length ca) from rfl))
  have p1 := bel_cell hb23 ((cells_new w #[.slice A l.length ca, .slice D ds.length cd] placesT 1).trans (show _ = some (Value.slice D ds.length cd) from rfl))
  have q4 := bel_cell hb3 ((cells_new (w.alloc (.cells #[.slice A l.length ca, .slice D ds.length cd] placesT)) #[.string x.car, .int .i64 x.num, .int .i64 x.day, .string x.f, .string x.t, .int .i64 x.dep, .int .i64 x.arr] sgT 4).trans (show _ = some (Value.string x.t) from rfl))
  have q6 := bel_cell hb3 ((cells_new (w.alloc (.cells #[.slice A l.length ca, .slice D ds.length cd] placesT)) #[.string x.car, .int .i64 x.num, .int .i64 x.day, .string x.f, .string x.t, .int .i64 x.dep, .int .i64 x.arr] sgT 6).trans (show _ = some (Value.int .i64 x.arr) from rfl))
  have r3 := (cells_new ((w.alloc (.cells #[.slice A l.length ca, .slice D ds.length cd] placesT)).alloc (.cells #[.string x.car, .int .i64 x.num, .int .i64 x.day, .string x.f, .string x.t, .int .i64 x.dep, .int .i64 x.arr] sgT)) #[.string y.car, .int .i64 y.num, .int .i64 y.day, .string y.f, .string y.t, .int .i64 y.dep, .int .i64 y.arr] sgT 3).trans (show _ = some (Value.string y.f) from rfl)
  have r5 := (cells_new ((w.alloc (.cells #[.slice A l.length ca, .slice D ds.length cd] placesT)).alloc (.cells #[.string x.car, .int .i64 x.num, .int .i64 x.day, .string x.f, .string x.t, .int .i64 x.dep, .int .i64 x.arr] sgT)) #[.string y.car, .int .i64 y.num, .int .i64 y.day, .string y.f, .string y.t, .int .i64 y.dep, .int .i64 y.arr] sgT 5).trans (show _ = some (Value.int .i64 y.dep) from rfl)
  simp only [World.size_alloc] at q4 q6 r3 r5
  generalize minC ln x.t x.car y.car = mm at *
  obtain ⟨d, hd⟩ : ∃ d, d = y.dep - x.arr := ⟨_, rfl⟩
  rw [← hd] at HC
  have w1 : wrap64 (y.dep - x.arr) = d := by rw [← hd]; exact IntWalk.wrap64_in _ (by omega)
  clear hd x0 x1 x2 x3 y0 y1 y2 y3 ho hL hv hcf hct hb1 hb2 hb3 hb23
  cases h1 : (y.f.toList == x.t.toList) with
  | true =>
    cases h2 : decide (d < mm) with
    | true =>
      have h2' : d < mm := of_decide_eq_true h2
      go_enter Tryd.func27, Tryd.ntmps27
      go_wp2_with (go_at_call 15; refine (KM.out _ hbx).mono ?_; rintro e w2 ⟨rfl, hb4⟩; have q6 := bel_cell hb4 q6; have r5 := bel_cell hb4 r5)
      go_ret
      exact ⟨ret_int (by rw [HC.out, if_pos h1, if_pos h2']), hbx.trans (hb4.mono hbx.size)⟩
    | false =>
      have h2' : ¬ d < mm := of_decide_eq_false h2
      go_enter Tryd.func27, Tryd.ntmps27
      go_wp2_with (go_at_call 15; refine (KM.out _ hbx).mono ?_; rintro e w2 ⟨rfl, hb4⟩; have q6 := bel_cell hb4 q6; have r5 := bel_cell hb4 r5)
      go_ret
      exact ⟨ret_int (by rw [HC.out, if_pos h1, if_neg (by omega)]), hbx.trans (hb4.mono hbx.size)⟩
  | false =>
    have h1' : ¬ (y.f.toList == x.t.toList) = true := by rw [h1]; exact Bool.false_ne_true
    clear KM
    have HH := Lib.hid h1'
    clear h1'
    go_enter Tryd.func27, Tryd.ntmps27
    go_upto_region 4 with fail
    generalize ((w.alloc (.cells #[.slice A l.length ca, .slice D ds.length cd] placesT)).alloc (.cells #[.string x.car, .int .i64 x.num, .int .i64 x.day, .string x.f, .string x.t, .int .i64 x.dep, .int .i64 x.arr] sgT)).alloc (.cells #[.string y.car, .int .i64 y.num, .int .i64 y.day, .string y.f, .string y.t, .int .i64 y.dep, .int .i64 y.arr] sgT) = w5 at *
    have f0 : ∀ z : Wd (SW w5), z.w.cell? ⟨w.heap.size, 0, none⟩ = some (Value.slice A l.length ca) := fun z => bel_get p0 _ z.ok
    have f1 : ∀ z : Wd (SW w5), z.w.cell? ⟨w.heap.size, 1, none⟩ = some (Value.slice D ds.length cd) := fun z => bel_get p1 _ z.ok
    have g4 : ∀ z : Wd (SW w5), z.w.cell? ⟨w.heap.size + 1, 4, none⟩ = some (Value.string x.t) := fun z => bel_get q4 _ z.ok
    have e3 : ∀ z : Wd (SW w5), z.w.cell? ⟨w.heap.size + 1 + 1, 3, none⟩ = some (Value.string y.f) := fun z => bel_get r3 _ z.ok
    have K1 := Lib.hid (fun W (h : SW w5 W) => sw_call (fun W2 h2 => KF.out W2 (hbx.trans (Below.mono h2 hbx.size))) W h)
    have K2 := Lib.hid (fun W (h : SW w5 W) => sw_call (fun W2 h2 => KT.out W2 (hbx.trans (Below.mono h2 hbx.size))) W h)
    have hS0 : SW w5 w5.drew := (Below.refl _ _).drew
    have Q6 := Lib.hid q6
    have R5 := Lib.hid r5
    have HBX := Lib.hid hbx
    clear p0 p1 q4 q6 r3 r5 KF KT hbx
    cases h3 : (cf.toList == ct.toList) with
    | false =>
      have hNe : Nonempty (Wd (SW w5)) := ⟨⟨_, hS0⟩⟩
      refine quietS (S := SW w5) (by kernel_rfl) (by kernel_rfl) (hS0) ?_
      repeat (first | go_big_quiet_skip | (go_big_quiet_want; go_big_quiet_op; first | go_big_quiet_on | go_big_quiet_call ((first | (go_at_call 52; with_reducible exact quiet_S (K1.out _ (Wd.ok _))) | (go_at_call 52; with_reducible exact quiet_S (K2.out _ (Wd.ok _)))))))
      refine wpQuiet_nil ?_
      rintro W ⟨⟨_, hW⟩, rfl⟩
      clear f0 f1 g4 e3
      go_wp2
      go_ret
      exact ⟨ret_int (by rw [HC.out, if_neg HH.out, if_neg (by rw [h3]; exact Bool.false_ne_true)]), HBX.out.trans (Below.mono hW HBX.out.size)⟩
    | true =>
      cases h2 : decide (d < 240) with
      | true =>
        have h2' : d < 240 := of_decide_eq_true h2
        have hNe : Nonempty (Wd (SW w5)) := ⟨⟨_, hS0⟩⟩
        refine quietS (S := SW w5) (by kernel_rfl) (by kernel_rfl) (hS0) ?_
        repeat (first | go_big_quiet_skip | (go_big_quiet_want; go_big_quiet_op; first | go_big_quiet_on | go_big_quiet_call ((first | (go_at_call 52; with_reducible exact quiet_S (K1.out _ (Wd.ok _))) | (go_at_call 52; with_reducible exact quiet_S (K2.out _ (Wd.ok _)))))))
        refine wpQuiet_nil ?_
        rintro W ⟨⟨_, hW⟩, rfl⟩
        clear f0 f1 g4 e3
        have q6 := bel_get Q6.out _ hW
        have r5 := bel_get R5.out _ hW
        go_wp2
        go_ret
        exact ⟨ret_int (by rw [HC.out, if_neg HH.out, if_pos h3, if_pos h2']), HBX.out.trans (Below.mono hW HBX.out.size)⟩
      | false =>
        have h2' : ¬ d < 240 := of_decide_eq_false h2
        have hNe : Nonempty (Wd (SW w5)) := ⟨⟨_, hS0⟩⟩
        refine quietS (S := SW w5) (by kernel_rfl) (by kernel_rfl) (hS0) ?_
        repeat (first | go_big_quiet_skip | (go_big_quiet_want; go_big_quiet_op; first | go_big_quiet_on | go_big_quiet_call ((first | (go_at_call 52; with_reducible exact quiet_S (K1.out _ (Wd.ok _))) | (go_at_call 52; with_reducible exact quiet_S (K2.out _ (Wd.ok _)))))))
        refine wpQuiet_nil ?_
        rintro W ⟨⟨_, hW⟩, rfl⟩
        clear f0 f1 g4 e3
        have q6 := bel_get Q6.out _ hW
        have r5 := bel_get R5.out _ hW
        go_wp2
        go_ret
        exact ⟨ret_int (by rw [HC.out, if_neg HH.out, if_pos h3, if_neg (by omega)]), HBX.out.trans (Below.mono hW HBX.out.size)⟩


set_option maxRecDepth 100000 in
set_option maxHeartbeats 16000000 in
theorem valid_any (p : PV) (v : Value) (ln : List Cn) (v2 : Value) (S : List Sg) (w : World) (ho : OkV p) (hL : AirL w p.A p.l) (hv : CnL w v ln) (hn : ln.length ≤ 1000) (hS : SgL w v2 S) (hsn : S.length ≤ 1000) (ht : ∀ s ∈ S, tmB s) :
    Calls Tryd.prog 13 #[encP p, v, v2] w fun e w' => e = .returned (.int .i64 (valP p ln S)) ∧ Below w.heap.size w w' := by
  have hbx := bel_alloc w (.cells #[.slice p.A p.l.length p.ca, .slice p.D p.ds.length p.cd] placesT)
  have KA := Lib.hid (fun (s : ByteArray) W (h : Below w.heap.size w W) => isAirport_any p s W ho (hL.more h))
  have KC := Lib.hid (fun (x y : Sg) (hx : tmB x) (hy : tmB y) W (h : Below w.heap.size w W) => chg_any p v ln x y W ho (hL.more h) (hv.more h) hn hx hy)
  have HP : Hid (valP p ln S = if S.length < 1 ∨ 6 < S.length then 4 else vFr p ln S S.length 0) := Lib.hid rfl
  have HA : Hid (∀ i, vAt p ln S i = if !(airB p (sA S i).f) || !(airB p (sA S i).t) then 14 else if (sA S i).arr ≤ (sA S i).dep then 13 else if i = 0 then 0 else chgP p ln (sA S (i - 1)) (sA S i)) := Lib.hid (fun i => rfl)
  have HF : Hid (∀ n k, vFr p ln S (n + 1) k = if vAt p ln S k ≠ 0 then vAt p ln S k else vFr p ln S n (k + 1)) := Lib.hid (fun n k => rfl)
  have HF0 : Hid (∀ k, vFr p ln S 0 k = 0) := Lib.hid (fun k => rfl)
  obtain ⟨Bc, cb, rfl, _⟩ := id hv
  obtain ⟨Bs, cs, rfl, _⟩ := id hS
  have HS := Lib.hid hS
  have HT := Lib.hid ht
  have p0 := (cells_new w #[.slice p.A p.l.length p.ca, .slice p.D p.ds.length p.cd] placesT 0).trans (show _ = some (Value.slice p.A p.l.length p.ca) from rfl)
  have p1 := (cells_new w #[.slice p.A p.l.length p.ca, .slice p.D p.ds.length p.cd] placesT 1).trans (show _ = some (Value.slice p.D p.ds.length p.cd) from rfl)
  generalize airB p = ab at *
  generalize chgP p ln = cg at *
  generalize valP p ln S = R at *
  generalize vAt p ln S = va at *
  generalize vFr p ln S = vf at *
  obtain ⟨A, ca, l, D, cd, ds⟩ := p
  dsimp only at *
  clear hv hS ht ho hL
  by_cases hsz : S.length < 1
  · have hsz0 : (S.length : Int) < 1 := by omega
    have HR : Hid (4 = R) := Lib.hid (by rw [HP.out, if_pos (.inl hsz)])
    go_enter Tryd.func13, Tryd.ntmps13
    go_wp2
    go_ret
    exact ⟨ret_int HR.out, hbx⟩
  by_cases hsz6 : 6 < S.length
  · have hsz0 : ¬ (S.length : Int) < 1 := by omega
    have hsz7 : 6 < (S.length : Int) := by omega
    have HR : Hid (4 = R) := Lib.hid (by rw [HP.out, if_pos (.inr hsz6)])
    go_enter Tryd.func13, Tryd.ntmps13
    go_wp2
    go_ret
    exact ⟨ret_int HR.out, hbx⟩
  have hsz0 : ¬ (S.length : Int) < 1 := by omega
  have hsz7 : ¬ 6 < (S.length : Int) := by omega
  have HR0 : Hid (R = vf S.length 0) := Lib.hid (by rw [HP.out, if_neg (by omega)])
  clear HP
  have HBX := Lib.hid hbx
  obtain ⟨B, hB⟩ : ∃ B, B = w.heap.size := ⟨_, rfl⟩
  rw [← hB] at p0 p1
  go_enter Tryd.func13, Tryd.ntmps13
  go_wp2
  rw [← hB]
  generalize w.alloc (.cells #[.slice A l.length ca, .slice D ds.length cd] placesT) = w5 at *
  clear hB hbx
  go_loopw [20] (fun vi wr => ∃ (k : Nat), k ≤ S.length ∧ vi = .int .i64 k ∧ Hid (R = vf (S.length - k) k) ∧ SW w5 wr) (fun vi _ => S.length - (intOf vi).toNat)
  case atStart => exact ⟨0, Nat.zero_le _, rfl, HR0, Below.refl _ _⟩
  case round =>
    obtain ⟨k, hk, rfl, HK, hW5⟩ := hrel
    by_cases hlt : k < S.length
    · have hx := sA_get hlt
      have hbw : Below w.heap.size w wr := HBX.out.trans (Below.mono hW5 HBX.out.size)
      obtain ⟨bb, off, e1, hbl, hc⟩ := row_get (HS.out.more hbw) hx
      cases e1
      have i2 : (k : Int) < (S.length : Int) := by omega
      have d0 := hc 0 _ rfl
      have d1 := hc 1 _ rfl
      have d2 := hc 2 _ rfl
      have d3 := hc 3 _ rfl
      have d4 := hc 4 _ rfl
      have d5 := hc 5 _ rfl
      have d6 := hc 6 _ rfl
      rw [Nat.add_zero] at d0
      have HTK := Lib.hid (HT.out _ (List.mem_of_getElem? hx))
      have HST : Hid (R = if va k ≠ 0 then va k else vf (S.length - (k + 1)) (k + 1)) := Lib.hid (by rw [HK.out, show S.length - k = (S.length - (k + 1)) + 1 by omega, HF.out])
      have HVA := Lib.hid (HA.out k)
      have HSA : Hid (sA S k = sA S k) := Lib.hid rfl
      obtain ⟨y, hy⟩ : ∃ y, y = sA S k := ⟨_, rfl⟩
      rw [← hy] at d0 d1 d2 d3 d4 d5 d6 HTK HVA
      have HY := Lib.hid hy
      have p0' := bel_get p0 _ hW5
      have p1' := bel_get p1 _ hW5
      have hbA := bel_alloc wr (.cells #[.string y.car, .int .i64 y.num, .int .i64 y.day, .string y.f, .string y.t, .int .i64 y.dep, .int .i64 y.arr] sgT)
      have c0 := (cells_new wr #[.string y.car, .int .i64 y.num, .int .i64 y.day, .string y.f, .string y.t, .int .i64 y.dep, .int .i64 y.arr] sgT 0).trans (show _ = some (Value.string y.car) from rfl)
      have c1 := (cells_new wr #[.string y.car, .int .i64 y.num, .int .i64 y.day, .string y.f, .string y.t, .int .i64 y.dep, .int .i64 y.arr] sgT 1).trans (show _ = some (Value.int .i64 y.num) from rfl)
      have c2 := (cells_new wr #[.string y.car, .int .i64 y.num, .int .i64 y.day, .string y.f, .string y.t, .int .i64 y.dep, .int .i64 y.arr] sgT 2).trans (show _ = some (Value.int .i64 y.day) from rfl)
      have c3 := (cells_new wr #[.string y.car, .int .i64 y.num, .int .i64 y.day, .string y.f, .string y.t, .int .i64 y.dep, .int .i64 y.arr] sgT 3).trans (show _ = some (Value.string y.f) from rfl)
      have c4 := (cells_new wr #[.string y.car, .int .i64 y.num, .int .i64 y.day, .string y.f, .string y.t, .int .i64 y.dep, .int .i64 y.arr] sgT 4).trans (show _ = some (Value.string y.t) from rfl)
      have c5 := (cells_new wr #[.string y.car, .int .i64 y.num, .int .i64 y.day, .string y.f, .string y.t, .int .i64 y.dep, .int .i64 y.arr] sgT 5).trans (show _ = some (Value.int .i64 y.dep) from rfl)
      have c6 := (cells_new wr #[.string y.car, .int .i64 y.num, .int .i64 y.day, .string y.f, .string y.t, .int .i64 y.dep, .int .i64 y.arr] sgT 6).trans (show _ = some (Value.int .i64 y.arr) from rfl)
      have p0' := bel_cell hbA p0'
      have p1' := bel_cell hbA p1'
      have HW6 := Lib.hid (show SW w5 (wr.alloc (.cells #[.string y.car, .int .i64 y.num, .int .i64 y.day, .string y.f, .string y.t, .int .i64 y.dep, .int .i64 y.arr] sgT)) from Below.trans hW5 (Below.mono hbA hW5.size))
      have HBW := Lib.hid (hbw.trans (hbA.mono hbw.size))
      have KF := Lib.hid (KA.out y.f)
      have KT := Lib.hid (KA.out y.t)
      clear hx hc hy hbw hbA
      go_upto_region 6 with fail
      obtain ⟨Bx, hBx⟩ : ∃ Bx, Bx = wr.heap.size := ⟨_, rfl⟩
      rw [← hBx] at c0 c1 c2 c3 c4 c5 c6 ⊢
      generalize wr.alloc (.cells #[.string y.car, .int .i64 y.num, .int .i64 y.day, .string y.f, .string y.t, .int .i64 y.dep, .int .i64 y.arr] sgT) = w6 at *
      clear d0 d1 d2 d3 d4 d5 d6 hBx
      cases h1 : ab y.f with
      | false =>
        rw [h1] at KF HVA
        have HR : Hid (14 = R) := Lib.hid (by rw [HST.out, HVA.out]; rfl)
        go_wp2_with (go_at_call 26; refine (KF.out _ HBW.out).mono ?_; rintro e w7 ⟨rfl, hb7⟩)
        go_ret
        exact ⟨ret_int HR.out, HBW.out.trans (hb7.mono HBW.out.size)⟩
      | true =>
      rw [h1] at KF HVA
      cases h2 : ab y.t with
      | false =>
        rw [h2] at KT HVA
        have HR : Hid (14 = R) := Lib.hid (by rw [HST.out, HVA.out]; rfl)
        go_wp2_with (first | (go_at_call 26; with_reducible refine (KF.out _ HBW.out).mono ?_; rintro e w7 ⟨rfl, hb7⟩; have p0' := bel_cell hb7 p0'; have p1' := bel_cell hb7 p1'; have c4 := bel_cell hb7 c4; have HB7 := Lib.hid (HBW.out.trans (hb7.mono HBW.out.size))) | (go_at_call 26; with_reducible refine (KT.out _ HB7.out).mono ?_; rintro e w8 ⟨rfl, hb8⟩))
        go_ret
        exact ⟨ret_int HR.out, HB7.out.trans (hb8.mono HB7.out.size)⟩
      | true =>
      rw [h2] at KT HVA
      go_upto_region 8 with (first | (go_at_call 26; with_reducible refine (KF.out _ HBW.out).mono ?_; rintro e w7 ⟨rfl, hb7⟩; have p0' := bel_cell hb7 p0'; have p1' := bel_cell hb7 p1'; have c4 := bel_cell hb7 c4; have HB7 := Lib.hid (HBW.out.trans (hb7.mono HBW.out.size))) | (go_at_call 26; with_reducible refine (KT.out _ HB7.out).mono ?_; rintro e w8 ⟨rfl, hb8⟩; have p0' := bel_cell hb8 p0'; have p1' := bel_cell hb8 p1'; have c4 := bel_cell hb8 c4))
      have HB8 := Lib.hid (HB7.out.trans (hb8.mono HB7.out.size))
      have hb78 := hb7.trans (hb8.mono hb7.size)
      have HW8 := Lib.hid (show SW w5 w8 from Below.trans HW6.out (Below.mono hb78 HW6.out.size))
      have c0 := bel_cell hb78 c0
      have c1 := bel_cell hb78 c1
      have c2 := bel_cell hb78 c2
      have c3 := bel_cell hb78 c3
      have c5 := bel_cell hb78 c5
      have c6 := bel_cell hb78 c6
      clear hb7 hb8 hb78 HB7 HBW HW6 KF KT
      cases h3 : decide (y.arr ≤ y.dep) with
      | true =>
        have h3' : y.arr ≤ y.dep := of_decide_eq_true h3
        have HR : Hid (13 = R) := Lib.hid (by rw [HST.out, HVA.out]; simp [h3'])
        go_wp2
        go_ret
        exact ⟨ret_int HR.out, HB8.out⟩
      | false =>
      have h3' : ¬ y.arr ≤ y.dep := of_decide_eq_false h3
      cases k with
      | zero =>
        have HR : Hid (R = vf (S.length - 1) 1) := Lib.hid (by rw [HST.out, HVA.out]; simp [h3'])
        go_wp2
        go_roundw
        case rel => exact ⟨1, by omega, by go_num, HR, HW8.out⟩
        case measure => simp [intOf]; omega
      | succ q =>
      have hxq := sA_get (show q < S.length by omega)
      obtain ⟨b2, o2, e2, hb2, hcq⟩ := row_get (HS.out.more HB8.out) hxq
      cases e2
      have i3 : (q : Int) < (S.length : Int) := by omega
      have k1 : ¬ ((q : Int) + 1 = 0) := by omega
      have w1 : IntKind.i64.wrap (q : Int) = (q : Int) := IntWalk.i64_in _ (by omega)
      have t0 := hcq 0 _ rfl
      have t1 := hcq 1 _ rfl
      have t2 := hcq 2 _ rfl
      have t3 := hcq 3 _ rfl
      have t4 := hcq 4 _ rfl
      have t5 := hcq 5 _ rfl
      have t6 := hcq 6 _ rfl
      rw [Nat.add_zero] at t0
      have HTQ := Lib.hid (HT.out _ (List.mem_of_getElem? hxq))
      obtain ⟨x, hx⟩ : ∃ x, x = sA S q := ⟨_, rfl⟩
      rw [← hx] at t0 t1 t2 t3 t4 t5 t6 HTQ
      have HR2 : Hid (R = if cg x y ≠ 0 then cg x y else vf (S.length - (q + 1 + 1)) (q + 1 + 1)) := Lib.hid (by rw [HST.out, HVA.out, hx]; simp [h3'])
      have KX := Lib.hid (fun W (h : SW w8 W) => sw_call (fun W2 h2 => KC.out x y HTQ.out HTK.out W2 (HB8.out.trans (Below.mono h2 HB8.out.size))) W h)
      generalize cg x y = r at *
      have f0 : ∀ z : Wd (SW w8), z.w.cell? ⟨B, 0, none⟩ = some (Value.slice A l.length ca) := fun z => bel_get p0' _ z.ok
      have f1 : ∀ z : Wd (SW w8), z.w.cell? ⟨B, 1, none⟩ = some (Value.slice D ds.length cd) := fun z => bel_get p1' _ z.ok

      have u0 : ∀ z : Wd (SW w8), z.w.cell? ⟨Bx, 0, none⟩ = some (Value.string y.car) := fun z => bel_get c0 _ z.ok
      have v0 : ∀ z : Wd (SW w8), z.w.cell? ⟨bb, off + q * 7, none⟩ = some (Value.string x.car) := fun z => bel_get t0 _ z.ok
      have u1 : ∀ z : Wd (SW w8), z.w.cell? ⟨Bx, 1, none⟩ = some (Value.int .i64 y.num) := fun z => bel_get c1 _ z.ok
      have v1 : ∀ z : Wd (SW w8), z.w.cell? ⟨bb, off + q * 7 + 1, none⟩ = some (Value.int .i64 x.num) := fun z => bel_get t1 _ z.ok
      have u2 : ∀ z : Wd (SW w8), z.w.cell? ⟨Bx, 2, none⟩ = some (Value.int .i64 y.day) := fun z => bel_get c2 _ z.ok
      have v2 : ∀ z : Wd (SW w8), z.w.cell? ⟨bb, off + q * 7 + 2, none⟩ = some (Value.int .i64 x.day) := fun z => bel_get t2 _ z.ok
      have u3 : ∀ z : Wd (SW w8), z.w.cell? ⟨Bx, 3, none⟩ = some (Value.string y.f) := fun z => bel_get c3 _ z.ok
      have v3 : ∀ z : Wd (SW w8), z.w.cell? ⟨bb, off + q * 7 + 3, none⟩ = some (Value.string x.f) := fun z => bel_get t3 _ z.ok
      have u4 : ∀ z : Wd (SW w8), z.w.cell? ⟨Bx, 4, none⟩ = some (Value.string y.t) := fun z => bel_get c4 _ z.ok
      have v4 : ∀ z : Wd (SW w8), z.w.cell? ⟨bb, off + q * 7 + 4, none⟩ = some (Value.string x.t) := fun z => bel_get t4 _ z.ok
      have u5 : ∀ z : Wd (SW w8), z.w.cell? ⟨Bx, 5, none⟩ = some (Value.int .i64 y.dep) := fun z => bel_get c5 _ z.ok
      have v5 : ∀ z : Wd (SW w8), z.w.cell? ⟨bb, off + q * 7 + 5, none⟩ = some (Value.int .i64 x.dep) := fun z => bel_get t5 _ z.ok
      have u6 : ∀ z : Wd (SW w8), z.w.cell? ⟨Bx, 6, none⟩ = some (Value.int .i64 y.arr) := fun z => bel_get c6 _ z.ok
      have v6 : ∀ z : Wd (SW w8), z.w.cell? ⟨bb, off + q * 7 + 6, none⟩ = some (Value.int .i64 x.arr) := fun z => bel_get t6 _ z.ok
      have hS1 : SW w8 w8.drew := (Below.refl _ _).drew
      go_upto_region 11 with fail
      clear hxq hcq hb2 hx c0 c1 c2 c3 c4 c5 c6 t0 t1 t2 t3 t4 t5 t6 p0' p1'
      cases hr : (r != 0) with
      | true =>
        have HR : Hid (r = R) := Lib.hid (by rw [HR2.out, if_pos (by simpa using hr)])
        have hNe : Nonempty (Wd (SW w8)) := ⟨⟨_, hS1⟩⟩
        refine quietS (S := SW w8) (by kernel_rfl) (by kernel_rfl) (hS1) ?_
        repeat (first | go_big_quiet_skip | (go_big_quiet_want; go_big_quiet_op; first | go_big_quiet_on | go_big_quiet_call (((go_at_call 27; exact quiet_S (KX.out _ (Wd.ok _)))))))
        refine wpQuiet_nil ?_
        rintro W ⟨⟨_, hW⟩, rfl⟩
        clear f0 f1 u0 v0 u1 v1 u2 v2 u3 v3 u4 v4 u5 v5 u6 v6
        go_wp2
        go_ret
        exact ⟨ret_int HR.out, HB8.out.trans (Below.mono hW HB8.out.size)⟩
      | false =>
        have HR : Hid (R = vf (S.length - (q + 1 + 1)) (q + 1 + 1)) := Lib.hid (by rw [HR2.out, if_neg (by simpa using hr)])
        have hNe : Nonempty (Wd (SW w8)) := ⟨⟨_, hS1⟩⟩
        refine quietS (S := SW w8) (by kernel_rfl) (by kernel_rfl) (hS1) ?_
        repeat (first | go_big_quiet_skip | (go_big_quiet_want; go_big_quiet_op; first | go_big_quiet_on | go_big_quiet_call (((go_at_call 27; exact quiet_S (KX.out _ (Wd.ok _)))))))
        refine wpQuiet_nil ?_
        rintro W ⟨⟨_, hW⟩, rfl⟩
        clear f0 f1 u0 v0 u1 v1 u2 v2 u3 v3 u4 v4 u5 v5 u6 v6
        go_wp2
        go_roundw
        case rel => exact ⟨q + 1 + 1, by omega, by go_num, HR, Below.trans HW8.out (Below.mono hW HW8.out.size)⟩
        case measure => simp [intOf]; omega
    · have e : k = S.length := by omega
      subst e
      have HR : Hid (0 = R) := Lib.hid (by rw [HK.out, Nat.sub_self, HF0.out])
      have i2 : ¬ (S.length : Int) < (S.length : Int) := by omega
      go_wp2
      go_ret
      exact ⟨ret_int HR.out, HBX.out.trans (Below.mono hW5 HBX.out.size)⟩

end Go.Proofs.YtkcdifanhdakhaaDoor.Con
