/- Words and walks that the laws below ask: TopC. -/
import Derived.Test.YtmmpalnalogfnaaPk2
import Derived.Test.YtmmpalnalogfnaaPk3
import Derived.Test.YtmmpalnalogfnaaPk5
import Derived.Test.YtmmpalnalogfnaaPk6
/- Walk of TopTimes. -/
namespace Go.Proofs.Ytmmpalnalogfnaa
open Go.RowKit Go.Shelf
set_option linter.unusedSimpArgs false
set_option linter.unusedVariables false

/-- an airport as cells -/
abbrev airX (z : Air) (A : Option Addr) (c : Nat) : Array Value := #[.string z.code, .string z.city, .string z.land, .int .i64 z.off, .slice A z.shs.length c]
/-- what Find hands back: the airport z -/
def FndX (z : Air) (b : Bool) (w : World) (e : Ending) (w' : World) : Prop := ∃ X A c, e = .returned (.tuple #[.agg X, .bool b]) ∧ Hid (X = airX z A c) ∧ ShL w' A z.shs ∧ (A = none ∨ ∃ g, A = some ⟨g, 0, none⟩ ∧ w.heap.size ≤ g) ∧ Below w.heap.size w w'
theorem info_air5 : (Try.prog.info? airT).map (·.size) = some 5 := by kernel_rfl
theorem store_air {z : Air} {A : Option Addr} {c : Nat} {X : Array Value} (hX : Hid (X = airX z A c)) (w : World) :
    (storeCells ⟨w.heap.size, 0, none⟩ X.toList 0).run Try.prog (w.alloc (.cells #[.string noB, .string noB, .string noB, .int .i64 0, .slice none 0 0] airT)) = .ok () (w.alloc (.cells X airT)) := by
  have e := hX.out
  subst e
  exact run_storeCells_new w airT _ _ info_air5 rfl (by simp [Value.oneCell'])
theorem store_at {w : World} {k : Nat} {cs X : Array Value} {t : TypeId} (h : w.heap[k]? = some (.cells cs t (0, 0))) (hs : X.size = cs.size) (h1 : ∀ v ∈ X.toList, v.oneCell' = true) : ∃ w', (storeCells ⟨k, 0, none⟩ X.toList 0).run Try.prog w = .ok () w' ∧ w'.heap[k]? = some (.cells X t (0, 0)) ∧ But w w' (fun j => j = k) := by
  have h2 := run_storeCells_at (P := Try.prog) k 0 t X.toList 0 cs w h (by simp [hs]) h1
  have e : (cs.toList.take (0 + 0) ++ X.toList ++ cs.toList.drop (0 + 0 + X.toList.length)).toArray = X := by
    have : cs.toList.drop (0 + 0 + X.toList.length) = [] := by simp [hs]
    rw [this]
    simp
  rw [e] at h2
  refine ⟨_, h2, setRow_heap w k cs X t (0, 0) h, ⟨rfl, rfl, rfl, by simp [World.setRow], fun j hj hne => setRow_other w k j X hne⟩⟩
theorem find_x (p : PV) (s : ByteArray) (w : World) (hl : p.l.length ≤ 40) (hL : AirL w p.A p.l) (hs : ∀ a ∈ p.l, a.shs.length ≤ 300) :
    Calls Try.prog 10 #[encP p, .string s] w (FndX (airOf p.l s) (findC p.l s).isSome w) :=
  (find2_any p s w hl hL hs).mono (by rintro e w' ⟨hb, A', c', rfl, h1, h2⟩; exact ⟨_, A', c', rfl, Lib.hid rfl, h1, h2, hb⟩)
/-- the zone of an airport that lies in a block of its own -/
structure AirBox (w : World) (N : Nat) (z : Air) (A : Option Addr) (c : Nat) : Prop where
  c3 : w.cell? ⟨N, 3, none⟩ = some (.int .i64 z.off)
  c4 : w.cell? ⟨N, 4, none⟩ = some (.slice A z.shs.length c)
theorem airBox_row {w : World} {N : Nat} {z : Air} {A : Option Addr} {c : Nat} {X : Array Value} (h : w.heap[N]? = some (.cells X airT (0, 0))) (hX : Hid (X = airX z A c)) : AirBox w N z A c := by
  have e := hX.out
  subst e
  exact ⟨(cell_of_row w _ 3 _ _ (0, 0) h).trans (show _ = some _ from rfl), (cell_of_row w _ 4 _ _ (0, 0) h).trans (show _ = some _ from rfl)⟩
theorem airOf_ok {l : List Air} {s : ByteArray} (h : (findC l s).isSome = true) (hz : ∀ a ∈ l, OkZ a.off a.shs) : OkZ (airOf l s).off (airOf l s).shs := by
  unfold airOf
  cases e : findC l s with
  | none => rw [e] at h; cases h
  | some a => exact hz a (List.mem_of_find?_eq_some e)
theorem RowL.at8t {w : World} {A : Option Addr} {n c : Nat} {L : List Dt} (h : RowL 8 encDt w (.slice A n c) L) {k : Nat} {y : Dt} (hk : L[k]? = some y) : ∃ b o, A = some ⟨b, o, none⟩ ∧ b < w.heap.size ∧ ∀ j u, (encDt y)[j]? = some u → w.cell? ⟨b, o + k * 8 + j, none⟩ = some u := by
  obtain ⟨hlt, rfl⟩ := List.getElem?_eq_some_iff.1 hk
  obtain ⟨b, o, h1, h2, h3⟩ := h.at rfl hlt
  exact ⟨b, o, h1, h2, h3⟩
theorem has_day {f t d n : Int} (h : Per.hasQ (f, t, d) n = true) : 0 ≤ n ∧ n < 36525 := by
  obtain ⟨h1, h2, h3, _⟩ := (Per.hasQ_iff _ _).1 h
  have h4 := Per.okQ_yes h1
  have h5 : 0 ≤ f := h4.1
  have h6 : t < 36525 := h4.2.2.1
  have h7 : f ≤ n := h2
  have h8 : n ≤ t := h3
  omega
theorem utcZ_bd {o : Int} {l : Shs} (h : OkZ o l) (x : Int) (hx : -100000000000 ≤ x ∧ x ≤ 100000000000) : -1099511627776 ≤ utcZ o l x ∧ utcZ o l x ≤ 1099511627776 := by
  obtain ⟨u1, u2, u3⟩ := utcN_spec h x
  have hb := h.before _ u1
  unfold utcZ
  split
  · omega
  · rename_i h0
    have := h.at' (utcN o l x - 1) (by omega)
    omega
set_option maxRecDepth 100000 in
set_option maxHeartbeats 8000000 in
theorem topTimes_walk (p : PV) (f : FV) (day : Int) (bd : -9223372036854775808 ≤ day ∧ day ≤ 9223372036854775807) (w : World) (hP : PlL w p) (hA : ∀ a ∈ p.l, OkA a) (hD : ∀ d ∈ p.ds, OkD d) (h1 : p.l.length < 9223372036854775808) (h2 : p.ds.length < 9223372036854775808) (hG : LegL w (.slice f.A f.lg.length f.c) f.lg) (of : OkFl f) :
    Calls Try.prog 3 #[encP p, encFl f, .int .i64 day] w fun e w' => e = .returned (.bool true) ∧ Below w.heap.size w w' := by
  have hb1 := bel_alloc w (.cells #[.slice p.A p.l.length p.ca, .slice p.D p.ds.length p.cd] placesT)
  have hb2 := bel_alloc (w.alloc (.cells #[.slice p.A p.l.length p.ca, .slice p.D p.ds.length p.cd] placesT)) (.cells #[.string f.car, .int .i64 f.num, .int .i64 f.pf, .int .i64 f.pt, .int .i64 f.pd, .slice f.A f.lg.length f.c] fliT)
  have hb0 := hb1.trans (hb2.mono hb1.size)
  have p0 := bel_cell hb2 ((cells_new w #[.slice p.A p.l.length p.ca, .slice p.D p.ds.length p.cd] placesT 0).trans (show _ = some (Value.slice p.A p.l.length p.ca) from rfl))
  have p1 := bel_cell hb2 ((cells_new w #[.slice p.A p.l.length p.ca, .slice p.D p.ds.length p.cd] placesT 1).trans (show _ = some (Value.slice p.D p.ds.length p.cd) from rfl))
  have q0 := (cells_new (w.alloc (.cells #[.slice p.A p.l.length p.ca, .slice p.D p.ds.length p.cd] placesT)) #[.string f.car, .int .i64 f.num, .int .i64 f.pf, .int .i64 f.pt, .int .i64 f.pd, .slice f.A f.lg.length f.c] fliT 0).trans (show _ = some (Value.string f.car) from rfl)
  have q1 := (cells_new (w.alloc (.cells #[.slice p.A p.l.length p.ca, .slice p.D p.ds.length p.cd] placesT)) #[.string f.car, .int .i64 f.num, .int .i64 f.pf, .int .i64 f.pt, .int .i64 f.pd, .slice f.A f.lg.length f.c] fliT 1).trans (show _ = some (Value.int .i64 f.num) from rfl)
  have q2 := (cells_new (w.alloc (.cells #[.slice p.A p.l.length p.ca, .slice p.D p.ds.length p.cd] placesT)) #[.string f.car, .int .i64 f.num, .int .i64 f.pf, .int .i64 f.pt, .int .i64 f.pd, .slice f.A f.lg.length f.c] fliT 2).trans (show _ = some (Value.int .i64 f.pf) from rfl)
  have q3 := (cells_new (w.alloc (.cells #[.slice p.A p.l.length p.ca, .slice p.D p.ds.length p.cd] placesT)) #[.string f.car, .int .i64 f.num, .int .i64 f.pf, .int .i64 f.pt, .int .i64 f.pd, .slice f.A f.lg.length f.c] fliT 3).trans (show _ = some (Value.int .i64 f.pt) from rfl)
  have q4 := (cells_new (w.alloc (.cells #[.slice p.A p.l.length p.ca, .slice p.D p.ds.length p.cd] placesT)) #[.string f.car, .int .i64 f.num, .int .i64 f.pf, .int .i64 f.pt, .int .i64 f.pd, .slice f.A f.lg.length f.c] fliT 4).trans (show _ = some (Value.int .i64 f.pd) from rfl)
  have q5 := (cells_new (w.alloc (.cells #[.slice p.A p.l.length p.ca, .slice p.D p.ds.length p.cd] placesT)) #[.string f.car, .int .i64 f.num, .int .i64 f.pf, .int .i64 f.pt, .int .i64 f.pd, .slice f.A f.lg.length f.c] fliT 5).trans (show _ = some (Value.slice f.A f.lg.length f.c) from rfl)
  rw [World.size_alloc] at q0 q1 q2 q3 q4 q5
  have HP := Lib.hid (hP.more hb0)
  have HG := Lib.hid (hG.more hb0)
  have HOF := Lib.hid of
  have hlen := of.len
  have HAD := Lib.hid (And.intro hA hD)
  have KS0 := Lib.hid (fun W h => smallPl_any p W h hA hD h1 h2)
  clear hP hG of hA hD
  go_enter Try.func3, Try.ntmps3
  go_upto_region 1 with fail
  generalize hw5 : (w.alloc (.cells #[.slice p.A p.l.length p.ca, .slice p.D p.ds.length p.cd] placesT)).alloc (.cells #[.string f.car, .int .i64 f.num, .int .i64 f.pf, .int .i64 f.pt, .int .i64 f.pd, .slice f.A f.lg.length f.c] fliT) = w5 at *
  clear hw5 hb1 hb2
  have f0 := bel_get q0
  have f1 := bel_get q1
  have f2 := bel_get q2
  have f3 := bel_get q3
  have f4 := bel_get q4
  have f5 := bel_get q5
  have y0 := bel_get p0
  have y1 := bel_get p1
  clear p0 p1 q0 q1 q2 q3 q4 q5
  have KW : Hid (∀ W, SW w5 W → Calls Try.prog 7 #[] W fun e w' => e = .returned (.bool true) ∧ SW w5 w') := Lib.hid (SW.call (fun W h => awakeT_any W))
  have KS : Hid (∀ W, SW w5 W → Calls Try.prog 4 #[encP p] W (SmlPost p W)) := Lib.hid (fun W h => KS0.out W (HP.out.more h))
  clear KS0
  have hS : SW w5 w5 := Below.refl _ _
  have k0 := f0 _ hS
  have k1 := f1 _ hS
  have k2 := f2 _ hS
  have k3 := f3 _ hS
  have k4 := f4 _ hS
  have k5 := f5 _ hS
  have z0 := y0 _ hS
  have z1 := y1 _ hS
  go_wp2_with (go_at_call 4; refine (KS.out _ hS).mono ?_; rintro e w1 ⟨bS, rfl, hF, hbq⟩; have hS : SW w5 w1 := Below.trans hS (Below.mono hbq hS.size); refine Hid.out ?_)
  clear k0 k1 k2 k3 k4 k5 z0 z1 KS hbq
  cases bS with
  | false =>
    refine Lib.hid ?_
    clear hF
    go_wp2_with (go_at_call 7; refine (KW.out _ hS).mono ?_; rintro e w9 ⟨rfl, hS⟩)
    go_ret
    exact ⟨rfl, hb0.trans (Below.mono hS hb0.size)⟩
  | true =>
  obtain ⟨b12, b20, hc0⟩ := hF rfl
  clear hF
  have k0 := f0 _ hS
  have k1 := f1 _ hS
  have k2 := f2 _ hS
  have k3 := f3 _ hS
  have k4 := f4 _ hS
  have k5 := f5 _ hS
  have z0 := y0 _ hS
  have z1 := y1 _ hS
  refine Lib.hid ?_
  by_cases h8 : f.lg.length ≤ 8
  case neg =>
    have i8 : (8 : Int) < (f.lg.length : Int) := by omega
    clear h8 hc0
    go_wp2_with (go_at_call 7; refine (KW.out _ hS).mono ?_; rintro e w9 ⟨rfl, hS⟩)
    go_ret
    exact ⟨rfl, hb0.trans (Below.mono hS hb0.size)⟩
  case pos =>
  have i8 : ¬ (8 : Int) < (f.lg.length : Int) := by omega
  have ok : OkP p := ⟨HAD.out.1, HAD.out.2, by omega, by omega⟩
  have hz := chk_okZ hc0
  have hs := chk_few hc0
  have KC : Hid (∀ W, SW w5 W → Calls Try.prog 5 #[encP p, encFl f] W fun e w' => ∃ A c, e = .returned (.slice A (chF p.l f).length c) ∧ SW w5 w') := Lib.hid (fun W h => (rfcheck_any p f W ok.la (HP.out.more h).air hz (HG.out.more h) (by omega) HOF.out.car HOF.out.lg HOF.out.pf).mono (by
    rintro e w' ⟨v, rfl, hO, hb⟩
    obtain ⟨A, c, rfl, _⟩ := hO.rowL rtF.len
    exact ⟨A, c, rfl, Below.trans h (Below.mono hb h.size)⟩))
  by_cases hf0 : chF p.l f = []
  case neg =>
    have hcl : (0 : Int) < ((chF p.l f).length : Int) := by
      have : (chF p.l f).length ≠ 0 := fun h => hf0 (List.eq_nil_of_length_eq_zero h)
      omega
    have hcn : 0 < (chF p.l f).length := by omega
    clear hf0 hc0
    generalize (chF p.l f).length = n0 at *
    go_wp2_with (first
      | (go_at_call 7; refine (KW.out _ hS).mono ?_; rintro e w9 ⟨rfl, hS⟩)
      | (go_at_call 5; refine (KC.out _ hS).mono ?_; rintro e w3 ⟨A2, c2, rfl, hS⟩; have k0 := f0 _ hS; have k1 := f1 _ hS; have k2 := f2 _ hS; have k3 := f3 _ hS; have k4 := f4 _ hS; have k5 := f5 _ hS; have z0 := y0 _ hS; have z1 := y1 _ hS))
    go_ret
    exact ⟨rfl, hb0.trans (Below.mono hS hb0.size)⟩
  case pos =>
  rw [hf0] at KC
  simp only [List.length_nil] at KC
  have hnil := chF_nil hf0
  have hcb := cnt_bd hnil.1
  have KQ : Hid (∀ W, SW w5 W → Calls Try.prog 6 #[.agg #[.int .i64 f.pf, .int .i64 f.pt, .int .i64 f.pd], .int .i64 day] W fun e w' => e = .returned (.bool (Per.hasQ (f.pf, f.pt, f.pd) day)) ∧ SW w5 w') := Lib.hid (SW.call (fun W h => Per.has_any f.pf f.pt f.pd day W bd.1 bd.2))
  cases hq : Per.hasQ (f.pf, f.pt, f.pd) day with
  | false =>
    rw [hq] at KQ
    clear hq hf0 hc0 hnil hz hs
    go_wp2_with (first
      | (go_at_call 7; refine (KW.out _ hS).mono ?_; rintro e w9 ⟨rfl, hS⟩)
      | (go_at_call 6; refine (KQ.out _ hS).mono ?_; rintro e w4 ⟨rfl, hS⟩)
      | (go_at_call 5; refine (KC.out _ hS).mono ?_; rintro e w3 ⟨A2, c2, rfl, hS⟩; have k0 := f0 _ hS; have k1 := f1 _ hS; have k2 := f2 _ hS; have k3 := f3 _ hS; have k4 := f4 _ hS; have k5 := f5 _ hS; have z0 := y0 _ hS; have z1 := y1 _ hS))
    go_ret
    exact ⟨rfl, hb0.trans (Below.mono hS hb0.size)⟩
  | true =>
  rw [hq] at KQ
  have hdb := has_day hq
  obtain ⟨L, hLd⟩ : ∃ L, L = f.lg.map (datL p.l f day) := ⟨_, rfl⟩
  have e1 : legF p.l f day = L := by rw [hLd]; unfold legF; rw [if_pos hq]
  have e2 : legE f day = 0 := by unfold legE; rw [if_pos hq]
  have hLn : L.length = f.lg.length := by rw [hLd, List.length_map]
  have KL : Hid (∀ W, SW w5 W → Calls Try.prog 8 #[encP p, encFl f, .int .i64 day] W fun e w' => ∃ A c, e = .returned (.tuple #[.slice A f.lg.length c, .int .i64 0]) ∧ RowL 8 encDt w' (.slice A f.lg.length c) L ∧ SW w5 w') := Lib.hid (fun W h => (legs_any p f day W ok.la (HP.out.more h).air hs hz (HG.out.more h) (by omega) (fun x hx => lgs_times hnil.2.2.1 hx) bd.1 bd.2).mono (by
    rintro e w' ⟨v, rfl, hO, hb⟩
    have hr := hO.rowL rtD.len
    rw [e1] at hr
    obtain ⟨A, c, rfl, hc⟩ := id hr
    rw [hLn] at hr ⊢
    exact ⟨A, c, by rw [e2], hr, Below.trans h (Below.mono hb h.size)⟩))
  have KD : Hid (∀ v W, SW w5 W → TblL W v [f] → Calls Try.prog 9 #[encP p, v, .int .i64 day] W fun e w' => ∃ A c, e = .returned (.slice A f.lg.length c) ∧ RowL 8 encDt w' (.slice A f.lg.length c) L ∧ Below W.heap.size W w') := Lib.hid (fun v W h hT => (sday_any p v [f] day W (fun _ => ⟨ok.la, hs, hz⟩) ⟨by simp, (by intro g hg; rw [List.mem_singleton.1 hg]; omega), (by intro g hg; rw [List.mem_singleton.1 hg]; exact fun x hx => lgs_times hnil.2.2.1 hx)⟩ (HP.out.more h).air hT bd.1 bd.2 (sort_ok (by rw [day_one, e1, hLn]; omega))).mono (by
    rintro e w' ⟨r, L', rfl, hr, ⟨hp, hs'⟩, hb⟩
    rw [day_alone hf0 hq hp hs', e1] at hr
    obtain ⟨A, c, rfl, hc⟩ := id hr
    rw [hLn] at hr ⊢
    exact ⟨A, c, rfl, hr, hb⟩))
  have HFact : Hid (∀ (k : Nat) (x : Lg), f.lg[k]? = some x → ∃ y, L[k]? = some y ∧ y.f = x.f ∧ y.dep = utcZ (airOf p.l x.f).off (airOf p.l x.f).shs (day * 1440 + x.dep) ∧ (findC p.l x.f).isSome = true ∧ OkZ (airOf p.l x.f).off (airOf p.l x.f).shs ∧ (-1000000 ≤ x.dep ∧ x.dep ≤ 1000000) ∧ y.dep < y.arr ∧ (∀ z, k ≠ 0 → L[k - 1]? = some z → z.arr ≤ y.dep)) := Lib.hid (fun k x hk => by
    have hfd := lgs_found hnil.2.2.1 hk
    have hor := chF_ord hf0 hq hk
    refine ⟨datL p.l f day x, by rw [hLd, List.getElem?_map, hk]; rfl, rfl, rfl, hfd, airOf_ok hfd hz, (lgs_times hnil.2.2.1 (List.mem_of_getElem? hk)).1, hor.1, fun z h0 hzk => ?_⟩
    rw [hLd, List.getElem?_map] at hzk
    cases hx : f.lg[k - 1]? with
    | none => rw [hx] at hzk; cases hzk
    | some y => rw [hx] at hzk; cases hzk; exact hor.2 y h0 hx)
  have KF0 : Hid (∀ s W, SW w5 W → Calls Try.prog 10 #[encP p, .string s] W (FndX (airOf p.l s) (findC p.l s).isSome W)) := Lib.hid (fun s W h => find_x p s W ok.la (HP.out.more h).air hs)
  have HLN := Lib.hid hLn
  have n8 : f.lg.length ≤ 8 := h8
  clear e1 e2 hLd hq hf0 hc0 hnil hz hs hLn ok h8
  go_upto_region 4 with (first
    | (go_at_call 8; refine (KL.out _ hS).mono ?_; rintro e w6 ⟨A6, c6, rfl, hR6, hS⟩; have k0 := f0 _ hS; have k1 := f1 _ hS; have k2 := f2 _ hS; have k3 := f3 _ hS; have k4 := f4 _ hS; have k5 := f5 _ hS; have z0 := y0 _ hS; have z1 := y1 _ hS)
    | (go_at_call 6; refine (KQ.out _ hS).mono ?_; rintro e w4 ⟨rfl, hS⟩; have k0 := f0 _ hS; have k1 := f1 _ hS; have k2 := f2 _ hS; have k3 := f3 _ hS; have k4 := f4 _ hS; have k5 := f5 _ hS; have z0 := y0 _ hS; have z1 := y1 _ hS)
    | (go_at_call 5; refine (KC.out _ hS).mono ?_; rintro e w3 ⟨A2, c2, rfl, hS⟩; have k0 := f0 _ hS; have k1 := f1 _ hS; have k2 := f2 _ hS; have k3 := f3 _ hS; have k4 := f4 _ hS; have k5 := f5 _ hS; have z0 := y0 _ hS; have z1 := y1 _ hS))
  clear k0 k1 k2 k3 k4 k5 z0 z1
  have hb6 := bel_alloc w6 (.cells #[.string f.car, .int .i64 f.num, .int .i64 f.pf, .int .i64 f.pt, .int .i64 f.pd, .slice f.A f.lg.length f.c] fliT)
  have HR6 := Lib.hid (hR6.more hb6)
  have hS6 : SW w5 (w6.alloc (.cells #[.string f.car, .int .i64 f.num, .int .i64 f.pf, .int .i64 f.pt, .int .i64 f.pd, .slice f.A f.lg.length f.c] fliT)) := Below.trans hS (Below.mono hb6 hS.size)
  have hT : TblL (w6.alloc (.cells #[.string f.car, .int .i64 f.num, .int .i64 f.pf, .int .i64 f.pt, .int .i64 f.pd, .slice f.A f.lg.length f.c] fliT)) (.slice (some ⟨w6.heap.size, 0, none⟩) 1 1) [f] := ⟨RowL.new (enc := encF6) (sz := 6) w6 [f] fliT (fun _ => rfl) rfl 1, (by intro g hg; rw [List.mem_singleton.1 hg]; exact HG.out.more hS6)⟩
  have k0 := f0 _ hS
  have k1 := f1 _ hS
  have k2 := f2 _ hS
  have k3 := f3 _ hS
  have k4 := f4 _ hS
  have k5 := f5 _ hS
  have z0 := y0 _ hS
  have z1 := y1 _ hS
  clear hR6 hb6
  go_upto_region 5 with (go_at_call 9; refine (KD.out _ _ hS6 hT).mono ?_; rintro e w7 ⟨A7, c7, rfl, hR7, hb7⟩; have HR6 := Lib.hid (HR6.out.more hb7); have HR7 := Lib.hid hR7; have hS : SW w5 w7 := Below.trans hS6 (Below.mono hb7 hS6.size); have k0 := f0 _ hS; have k1 := f1 _ hS; have k2 := f2 _ hS; have k3 := f3 _ hS; have k4 := f4 _ hS; have k5 := f5 _ hS; have z0 := y0 _ hS; have z1 := y1 _ hS)
  clear hT hS6 hR7 hb7 KD KL KC KQ
  have j0 : ((f.lg.length : Int) != (f.lg.length : Int)) = false := by simp
  have HS7 := Lib.hid hS
  go_wp2
  go_loopw [10] (fun vi wr => ∃ k : Nat, k ≤ f.lg.length ∧ vi = .int .i64 k ∧ SW w7 wr) (fun vi _ => f.lg.length - (intOf vi).toNat)
  case atStart => exact ⟨0, Nat.zero_le _, rfl, Below.refl _ _⟩
  case round =>
    obtain ⟨k, hk, rfl, hSr⟩ := hrel
    clear k0 k1 k2 k3 k4 k5 z0 z1 hS j0
    have hS5 : SW w5 wr := Below.trans HS7.out (Below.mono hSr HS7.out.size)
    by_cases hlt : k < f.lg.length
    case neg =>
      have i2 : ¬ (k : Int) < (f.lg.length : Int) := by omega
      have hS := hS5
      go_wp2_with (go_at_call 7; refine (KW.out _ hS).mono ?_; rintro e w9 ⟨rfl, hS⟩)
      go_ret
      exact ⟨rfl, hb0.trans (Below.mono hS hb0.size)⟩
    case pos =>
    obtain ⟨x, hx⟩ : ∃ x, f.lg[k]? = some x := ⟨_, List.getElem?_eq_getElem hlt⟩
    obtain ⟨y, hy, yf, ydep, hfd, hoz, hxb, hlo, hpv⟩ := HFact.out k x hx
    have i2 : (k : Int) < (f.lg.length : Int) := by omega
    obtain ⟨b6, o6, e6, hl6, hc6⟩ := RowL.at8t (HR6.out.more hSr) hy
    cases e6
    obtain ⟨b7, o7, e7, hl7, hc7⟩ := RowL.at8t (HR7.out.more hSr) hy
    cases e7
    obtain ⟨b8, o8, x8, e8, hl8, hx8, _, _, c82, _, _⟩ := LegL.get (HG.out.more hS5) hlt
    rw [hx] at hx8
    cases hx8
    have HE8 := Lib.hid e8
    clear e8
    have g3 := bel_get (hc6 3 _ rfl)
    rw [yf] at g3
    have KF : Hid (∀ W, SW wr W → Calls Try.prog 10 #[encP p, .string x.f] W (FndX (airOf p.l x.f) true W)) := Lib.hid (fun W h => by have h3 := KF0.out x.f W (Below.trans hS5 (Below.mono h hS5.size)); rw [hfd] at h3; exact h3)
    have z0 : ∀ W, SW wr W → W.cell? ⟨w.heap.size, 0, none⟩ = some (.slice p.A p.l.length p.ca) := fun W h => y0 W (Below.trans hS5 (Below.mono h hS5.size))
    have z1 : ∀ W, SW wr W → W.cell? ⟨w.heap.size, 1, none⟩ = some (.slice p.D p.ds.length p.cd) := fun W h => y1 W (Below.trans hS5 (Below.mono h hS5.size))
    have HY := Lib.hid hy
    have HSr := Lib.hid hSr
    have HHC6 := Lib.hid hc6
    have HHC7 := Lib.hid hc7
    have HPV := Lib.hid hpv
    have HOZ := Lib.hid hoz
    have HYD := Lib.hid ydep
    have HLO := Lib.hid hlo
    have HS5 := Lib.hid hS5
    clear hx hy hfd hoz hpv hc6 hc7 hl6 hl7 hl8 hSr hS5 ydep yf hlo
    generalize airOf p.l x.f = a at *
    go_upto_region 10 with fail
    go_cut [11, 12] from 68 to 158 (fun v11 v12 wx => ∃ (N : Nat) (A9 : Option Addr) (c9 : Nat), v11 = .pointer (some ⟨N, 0, none⟩) ∧ v12 = .bool true ∧ Hid (AirBox wx N a A9 c9 ∧ ShL wx A9 a.shs ∧ SW wr wx))
    case first =>
      have hS : (SW wr) _ := SW.drew _
      refine wp_region_held_drew (S := SW wr) (by kernel_rfl) hS (fun _ => ?_)
      refine wpAnyH_take (i := 0) (v := ?vQ0) rfl (by kernel_rfl) (by kernel_rfl) (by kernel_rfl) (fun _ _ _ h => h) (Or.inl ⟨by rfl, ?hyQ0⟩) hS ?restQ0
      case hyQ0 =>
        intro w hSw
        have k0 := z0 w hSw; have k1 := z1 w hSw; have k2 := g3 w hSw
        first | (go_simp; done) | (go_simp; with_reducible rfl)
      try simp only [Act.put, List.setIfInBounds_toArray, List.set_cons_zero, List.set_cons_succ]
      refine wpAnyH_take (i := 1) (v := ?vQ1) rfl (by kernel_rfl) (by kernel_rfl) (by kernel_rfl) (fun _ _ _ h => h) (Or.inl ⟨by rfl, ?hyQ1⟩) hS ?restQ1
      case hyQ1 =>
        intro w hSw
        first | (go_simp; done) | (go_simp; with_reducible rfl)
      try simp only [Act.put, List.setIfInBounds_toArray, List.set_cons_zero, List.set_cons_succ]
      refine wpAnyH_take (i := 2) (v := ?vQ2) rfl (by kernel_rfl) (by kernel_rfl) (by kernel_rfl) (fun _ _ _ h => h) (Or.inl ⟨by rfl, ?hyQ2⟩) hS ?restQ2
      case hyQ2 =>
        intro w hSw
        first | (go_simp; done) | (go_simp; with_reducible rfl)
      try simp only [Act.put, List.setIfInBounds_toArray, List.set_cons_zero, List.set_cons_succ]
      refine wpAnyH_take (i := 3) (v := ?vQ3) rfl (by kernel_rfl) (by kernel_rfl) (by kernel_rfl) (fun _ _ _ h => h) (Or.inl ⟨by rfl, ?hyQ3⟩) hS ?restQ3
      case hyQ3 =>
        intro w hSw
        have k0 := z0 w hSw; have k1 := z1 w hSw; have k2 := g3 w hSw
        first | (go_simp; done) | (go_simp; with_reducible rfl)
      try simp only [Act.put, List.setIfInBounds_toArray, List.set_cons_zero, List.set_cons_succ]
      refine wpAnyH_take (i := 4) (v := ?vQ4) rfl (by kernel_rfl) (by kernel_rfl) (by kernel_rfl) (fun _ _ _ h => h) (Or.inl ⟨by rfl, ?hyQ4⟩) hS ?restQ4
      case hyQ4 =>
        intro w hSw
        first | (go_simp; done) | (go_simp; with_reducible rfl)
      try simp only [Act.put, List.setIfInBounds_toArray, List.set_cons_zero, List.set_cons_succ]
      refine wpAnyH_take (i := 5) (v := ?vQ5) rfl (by kernel_rfl) (by kernel_rfl) (by kernel_rfl) (fun _ _ _ h => h) (Or.inl ⟨by rfl, ?hyQ5⟩) hS ?restQ5
      case hyQ5 =>
        intro w hSw
        have k0 := z0 w hSw; have k1 := z1 w hSw; have k2 := g3 w hSw
        first | (go_simp; done) | (go_simp; with_reducible rfl)
      try simp only [Act.put, List.setIfInBounds_toArray, List.set_cons_zero, List.set_cons_succ]
      refine wpAnyH_ready (rs := [6, 10]) (by kernel_rfl) (by simp) ?_
      refine AllReadyH.cons rfl (fun K hK => ?_) (AllReadyH.cons rfl (fun K hK => ?_) AllReadyH.nil)
      · go_simp
        go_wp2_with ((go_at_call 10; refine (KF.out _ hS).mono ?_; rintro e w8 ⟨X1, A9, c9, rfl, hX1, hL1, hA1, hb8⟩; have hsz1 : X1.size = 5 := (by rw [hX1.out]; rfl); have hS8 : SW wr w8 := Below.trans hS (Below.mono hb8 hS.size); have hS := hS8; have hst1 := store_air hX1 w8))
        refine hK.out _ _ hS (fun _ => ?_)
        clear hK K
        refine wpAnyH_take (i := 7) (v := ?vQa7) rfl (by kernel_rfl) (by kernel_rfl) (by kernel_rfl) (fun _ _ _ h => h) (Or.inl ⟨by rfl, ?hyQa7⟩) hS ?restQa7
        case hyQa7 =>
          intro w hSw
          first | (go_simp; done) | (go_simp; with_reducible rfl)
        try simp only [Act.put, List.setIfInBounds_toArray, List.set_cons_zero, List.set_cons_succ]
        refine wpAnyH_take (i := 8) (v := ?vQa8) rfl (by kernel_rfl) (by kernel_rfl) (by kernel_rfl) (fun _ _ _ h => h) (Or.inl ⟨by rfl, ?hyQa8⟩) hS ?restQa8
        case hyQa8 =>
          intro w hSw
          first | (go_simp; done) | (go_simp; with_reducible rfl)
        try simp only [Act.put, List.setIfInBounds_toArray, List.set_cons_zero, List.set_cons_succ]
        refine wpAnyH_take (i := 9) (v := ?vQa9) rfl (by kernel_rfl) (by kernel_rfl) (by kernel_rfl) (fun _ _ _ h => h) (Or.inl ⟨by rfl, ?hyQa9⟩) hS ?restQa9
        case hyQa9 =>
          intro w hSw
          first | (go_simp; done) | (go_simp; with_reducible rfl)
        try simp only [Act.put, List.setIfInBounds_toArray, List.set_cons_zero, List.set_cons_succ]
        refine wpAnyH_ready (rs := [10]) (by kernel_rfl) (by simp) ?_
        refine AllReadyH.cons rfl (fun K hK => ?_) AllReadyH.nil
        go_simp
        have hSp := hS
        have hS := Below.trans hSp (Below.mono (bel_alloc _ (.cells #[.string noB, .string noB, .string noB, .int .i64 0, .slice none 0 0] airT)) hSp.size)
        refine hK.out _ _ hS (fun _ => ?_)
        clear hK K
        refine wpAnyH_ready (rs := [11]) (by kernel_rfl) (by simp) ?_
        refine AllReadyH.cons rfl (fun K hK => ?_) AllReadyH.nil
        go_simp
        have hS : SW wr (w8.alloc (.cells X1 airT)) := Below.trans hS8 (Below.mono (bel_alloc w8 _) hS8.size)
        refine hK.out _ _ hS (fun _ => ?_)
        clear hK K
        refine wpAnyH_take (i := 12) (v := ?vQa12) rfl (by kernel_rfl) (by kernel_rfl) (by kernel_rfl) (fun _ _ _ h => h) (Or.inl ⟨by rfl, ?hyQa12⟩) hS ?restQa12
        case hyQa12 =>
          intro w hSw
          first | (go_simp; done) | (go_simp; with_reducible rfl)
        try simp only [Act.put, List.setIfInBounds_toArray, List.set_cons_zero, List.set_cons_succ]
        refine wpAnyH_done (by kernel_rfl) ?_ _
        simp only [List.getElem_toArray, List.getElem_cons_succ, List.getElem_cons_zero, List.set_cons_zero, List.set_cons_succ]
        try simp only [List.setIfInBounds_toArray, List.set_cons_zero, List.set_cons_succ]
        go_wp2_with fail
        go_meet
        exact ⟨_, A9, c9, rfl, rfl, Lib.hid ⟨airBox_row (heap_alloc_new w8 (.cells X1 airT)) hX1, hL1.more (bel_alloc w8 _), hS⟩⟩
      · go_simp
        have hSp := hS
        have hN0 := heap_alloc_new wr.drew (.cells #[.string noB, .string noB, .string noB, .int .i64 0, .slice none 0 0] airT)
        have hS := Below.trans hSp (Below.mono (bel_alloc _ (.cells #[.string noB, .string noB, .string noB, .int .i64 0, .slice none 0 0] airT)) hSp.size)
        refine hK.out _ _ hS (fun _ => ?_)
        clear hK K
        refine wpAnyH_ready (rs := [6]) (by kernel_rfl) (by simp) ?_
        refine AllReadyH.cons rfl (fun K hK => ?_) AllReadyH.nil
        go_simp
        go_wp2_with ((go_at_call 10; refine (KF.out _ hS).mono ?_; rintro e w8 ⟨X1, A9, c9, rfl, hX1, hL1, hA1, hb8⟩; have hsz1 : X1.size = 5 := (by rw [hX1.out]; rfl); have hS8 : SW wr w8 := Below.trans hS (Below.mono hb8 hS.size); have hS := hS8; obtain ⟨wS, hst0, hxS, hbS⟩ := store_at (X := X1) ((hb8.block _ (lt_of_cell2 hN0)).trans hN0) hsz1 (by rw [hX1.out]; simp [Value.oneCell']); have hst1 : (storeCells ⟨wr.heap.size, 0, none⟩ X1.toList 0).run Try.prog w8 = .ok () wS := hst0))
        refine hK.out _ _ hS (fun _ => ?_)
        clear hK K
        refine wpAnyH_take (i := 7) (v := ?vQb7) rfl (by kernel_rfl) (by kernel_rfl) (by kernel_rfl) (fun _ _ _ h => h) (Or.inl ⟨by rfl, ?hyQb7⟩) hS ?restQb7
        case hyQb7 =>
          intro w hSw
          first | (go_simp; done) | (go_simp; with_reducible rfl)
        try simp only [Act.put, List.setIfInBounds_toArray, List.set_cons_zero, List.set_cons_succ]
        refine wpAnyH_take (i := 8) (v := ?vQb8) rfl (by kernel_rfl) (by kernel_rfl) (by kernel_rfl) (fun _ _ _ h => h) (Or.inl ⟨by rfl, ?hyQb8⟩) hS ?restQb8
        case hyQb8 =>
          intro w hSw
          first | (go_simp; done) | (go_simp; with_reducible rfl)
        try simp only [Act.put, List.setIfInBounds_toArray, List.set_cons_zero, List.set_cons_succ]
        refine wpAnyH_take (i := 9) (v := ?vQb9) rfl (by kernel_rfl) (by kernel_rfl) (by kernel_rfl) (fun _ _ _ h => h) (Or.inl ⟨by rfl, ?hyQb9⟩) hS ?restQb9
        case hyQb9 =>
          intro w hSw
          first | (go_simp; done) | (go_simp; with_reducible rfl)
        try simp only [Act.put, List.setIfInBounds_toArray, List.set_cons_zero, List.set_cons_succ]
        refine wpAnyH_ready (rs := [11]) (by kernel_rfl) (by simp) ?_
        refine AllReadyH.cons rfl (fun K hK => ?_) AllReadyH.nil
        go_simp
        have hS : SW wr wS := Below.trans hS8 (hbS.below hS8.size (fun q hq he => by have : q = wr.heap.size := he; omega))
        refine hK.out _ _ hS (fun _ => ?_)
        clear hK K
        refine wpAnyH_take (i := 12) (v := ?vQb12) rfl (by kernel_rfl) (by kernel_rfl) (by kernel_rfl) (fun _ _ _ h => h) (Or.inl ⟨by rfl, ?hyQb12⟩) hS ?restQb12
        case hyQb12 =>
          intro w hSw
          first | (go_simp; done) | (go_simp; with_reducible rfl)
        try simp only [Act.put, List.setIfInBounds_toArray, List.set_cons_zero, List.set_cons_succ]
        refine wpAnyH_done (by kernel_rfl) ?_ _
        simp only [List.getElem_toArray, List.getElem_cons_succ, List.getElem_cons_zero, List.set_cons_zero, List.set_cons_succ]
        try simp only [List.setIfInBounds_toArray, List.set_cons_zero, List.set_cons_succ]
        go_wp2_with fail
        go_meet
        exact ⟨_, A9, c9, rfl, rfl, Lib.hid ⟨airBox_row hxS hX1, ShL.but' hL1 hbS (.inr (hA1.imp id (fun ⟨g, e, hg⟩ => ⟨g, 0, e, fun he => by have h5 : g = wr.heap.size := he; simp at hg; omega⟩))), hS⟩⟩
    case rest =>
      obtain ⟨N, A9, c9, rfl, rfl, HC⟩ := hcut
      clear KF
      generalize wc = w10 at *
      have HSC := Lib.hid HC.out.2.2
      have HS10 : Hid (SW w5 w10) := Lib.hid (Below.trans HS5.out (Below.mono HSC.out HS5.out.size))
      have m3 := HC.out.1.c3
      have m4 := HC.out.1.c4
      have u0c := bel_get (HHC6.out 0 _ rfl) _ HSC.out
      have u1c := bel_get (HHC6.out 1 _ rfl) _ HSC.out
      have u2c := bel_get (HHC6.out 2 _ rfl) _ HSC.out
      have u3c := bel_get (HHC6.out 3 _ rfl) _ HSC.out
      have u4c := bel_get (HHC6.out 4 _ rfl) _ HSC.out
      have u5c := bel_get (HHC6.out 5 _ rfl) _ HSC.out
      have u6c := bel_get (HHC6.out 6 _ rfl) _ HSC.out
      have u7c := bel_get (HHC6.out 7 _ rfl) _ HSC.out
      have t0c := bel_get (HHC7.out 0 _ rfl) _ HSC.out
      have t1c := bel_get (HHC7.out 1 _ rfl) _ HSC.out
      have t2c := bel_get (HHC7.out 2 _ rfl) _ HSC.out
      have t3c := bel_get (HHC7.out 3 _ rfl) _ HSC.out
      have t4c := bel_get (HHC7.out 4 _ rfl) _ HSC.out
      have t5c := bel_get (HHC7.out 5 _ rfl) _ HSC.out
      have t6c := bel_get (HHC7.out 6 _ rfl) _ HSC.out
      have t7c := bel_get (HHC7.out 7 _ rfl) _ HSC.out
      rw [Nat.add_zero] at u0c t0c
      have l2c := bel_get c82 _ HSC.out
      clear c82
      have v5 := f5 _ HS10.out
      rw [HE8.out] at v5
      have s0 : (y.car.toList == y.car.toList) = true := by simp
      have s1 : (y.f.toList == y.f.toList) = true := by simp
      have s2 : (y.t.toList == y.t.toList) = true := by simp
      have s3 : (y.eq.toList == y.eq.toList) = true := by simp
      have n0 : (y.num == y.num) = true := by simp
      have n1 : (y.day == y.day) = true := by simp
      have n2 : (y.dep == y.dep) = true := by simp
      have n3 : (y.arr == y.arr) = true := by simp
      have lo1 : decide (y.arr ≤ y.dep) = false := decide_eq_false (by have := HLO.out; omega)
      have lo2 : ¬ y.arr ≤ y.dep := by have := HLO.out; omega
      have KG : Hid (∀ W, SW w10 W → Calls Try.prog 11 #[.agg #[.int .i64 a.off, .slice A9 a.shs.length c9], .int .i64 y.dep] W fun e w' => e = .returned (.int .i64 (y.dep + offZ a.off a.shs y.dep)) ∧ Below W.heap.size W w') := Lib.hid ((fun W h => Zon.local_any a.off A9 c9 a.shs y.dep W HOZ.out (HC.out.2.1.more h) (by rw [HYD.out]; exact utcZ_bd HOZ.out _ (by omega))))
      have KX : Hid (∀ W, SW w10 W → Calls Try.prog 12 #[.agg #[.int .i64 a.off, .slice A9 a.shs.length c9], .int .i64 (day * 1440 + x.dep)] W fun e w' => e = .returned (.bool (decide (utcZ a.off a.shs (day * 1440 + x.dep) ≤ lastZ a.off a.shs (day * 1440 + x.dep)))) ∧ Below W.heap.size W w') := Lib.hid ((fun W h => Zon.exists_any a.off A9 c9 a.shs (day * 1440 + x.dep) W HOZ.out (HC.out.2.1.more h) (by omega)))
      have hge : day * 1440 + x.dep ≤ y.dep + offZ a.off a.shs y.dep := by rw [HYD.out]; exact loc_ge HOZ.out _
      have heq : utcZ a.off a.shs (day * 1440 + x.dep) ≤ lastZ a.off a.shs (day * 1440 + x.dep) → y.dep + offZ a.off a.shs y.dep = day * 1440 + x.dep := fun h => by rw [HYD.out]; exact loc_eq HOZ.out _ h
      generalize y.dep + offZ a.off a.shs y.dep = G at *
      have HGE := Lib.hid hge
      have HEQ := Lib.hid heq
      clear hge heq
      by_cases h0 : k = 0
      · have d3 : decide (0 < k) = false := decide_eq_false (by omega)
        have i1 : ¬ (0 : Int) < (k : Int) := by omega
        have d4 : decide ((0 : Int) < (k : Int)) = false := decide_eq_false (by omega)
        have F3 := SW.cell m3
        have F4 := SW.cell m4
        have U0 := SW.cell u0c
        have T0 := SW.cell t0c
        have U1 := SW.cell u1c
        have T1 := SW.cell t1c
        have U2 := SW.cell u2c
        have T2 := SW.cell t2c
        have U3 := SW.cell u3c
        have T3 := SW.cell t3c
        have U4 := SW.cell u4c
        have T4 := SW.cell t4c
        have U5 := SW.cell u5c
        have T5 := SW.cell t5c
        have U6 := SW.cell u6c
        have T6 := SW.cell t6c
        have U7 := SW.cell u7c
        have T7 := SW.cell t7c
        clear m3 m4 u0c t0c u1c t1c u2c t2c u3c t3c u4c t4c u5c t5c u6c t6c u7c t7c h0
        go_wp2
        have hNe : Nonempty (Wd (SW w10)) := ⟨⟨_, SW.drew _⟩⟩
        refine quietS (S := SW w10) (by kernel_rfl) (by kernel_rfl) (SW.drew _) ?_
        repeat (first | go_big_quiet_skip | (go_big_quiet_want; go_big_quiet_op; first | go_big_quiet_on | go_big_quiet_call ((fail))))
        refine wpQuiet_nil ?_
        rintro W ⟨⟨_, hW⟩, rfl⟩
        have HW := Lib.hid hW
        clear lo1 lo2 s0 s1 s2 s3 n0 n1 n2 n3 d3 d4 i1 U0 T0 U1 T1 U2 T2 U3 T3 U4 T4 U6 T6 U7 T7 T5
        have G3 : ∀ x : Wd (SW W), x.w.cell? ⟨N, 3, none⟩ = some (.int .i64 a.off) := fun x => F3 ⟨x.w, Below.trans HW.out (Below.mono x.ok HW.out.size)⟩
        have G4 : ∀ x : Wd (SW W), x.w.cell? ⟨N, 4, none⟩ = some (.slice A9 a.shs.length c9) := fun x => F4 ⟨x.w, Below.trans HW.out (Below.mono x.ok HW.out.size)⟩
        have G5 := fun x : Wd (SW W) => U5 ⟨x.w, Below.trans HW.out (Below.mono x.ok HW.out.size)⟩
        clear F3 F4 U5 hW
        generalize W = w12 at *
        have KGB : Hid (∀ V, SW w12 V → Calls Try.prog 11 #[.agg #[.int .i64 a.off, .slice A9 a.shs.length c9], .int .i64 y.dep] V fun e w' => e = .returned (.int .i64 G) ∧ SW w12 w') := Lib.hid (SW.call (fun V h => ((KG.out V (Below.trans HW.out (Below.mono h HW.out.size)))).mono (by rintro e w' ⟨rfl, hb⟩; exact ⟨rfl, hb⟩)))
        have KXB : Hid (∀ V, SW w12 V → Calls Try.prog 12 #[.agg #[.int .i64 a.off, .slice A9 a.shs.length c9], .int .i64 (day * 1440 + x.dep)] V fun e w' => e = .returned (.bool (decide (utcZ a.off a.shs (day * 1440 + x.dep) ≤ lastZ a.off a.shs (day * 1440 + x.dep)))) ∧ SW w12 w') := Lib.hid (SW.call (fun V h => KX.out V (Below.trans HW.out (Below.mono h HW.out.size))))
        go_wp2
        have hNe : Nonempty (Wd (SW w12)) := ⟨⟨_, SW.drew _⟩⟩
        refine quietS (S := SW w12) (by kernel_rfl) (by kernel_rfl) (SW.drew _) ?_
        repeat (first | go_big_quiet_skip | (go_big_quiet_want; go_big_quiet_op; first | go_big_quiet_on | go_big_quiet_call (((go_at_call 11; exact quiet_S (KGB.out _ (Wd.ok _)))))))
        refine wpQuiet_nil ?_
        rintro W ⟨⟨_, hW⟩, rfl⟩
        have a3 := G3 ⟨W, hW⟩
        have a4 := G4 ⟨W, hW⟩
        dsimp only at a3 a4
        have HW2 := Lib.hid hW
        clear G3 G4 G5 hW
        cases hex : decide (utcZ a.off a.shs (day * 1440 + x.dep) ≤ lastZ a.off a.shs (day * 1440 + x.dep)) with
        | false =>
          rw [hex] at KXB
          have lo5 : ¬ G < day * 1440 + x.dep := by have := HGE.out; omega
          clear hex
          go_wp2_with (go_at_call 12; refine (KXB.out _ HW2.out).mono ?_; rintro e w13 ⟨rfl, hS13⟩)
          have hS14 : SW w7 w13 := Below.trans HSr.out (Below.mono (Below.trans HSC.out (Below.mono (Below.trans HW.out (Below.mono hS13 HW.out.size)) HSC.out.size)) HSr.out.size)
          go_roundw
          case rel => exact ⟨k + 1, by omega, by go_num, hS14⟩
          case measure => simp [intOf]; omega
        | true =>
          rw [hex] at KXB
          have he := HEQ.out (of_decide_eq_true hex)
          have lo6 : (G != day * 1440 + x.dep) = false := by rw [he]; simp
          have lo5 : ¬ G < day * 1440 + x.dep := by have := HGE.out; omega
          clear hex he
          go_wp2_with (go_at_call 12; refine (KXB.out _ HW2.out).mono ?_; rintro e w13 ⟨rfl, hS13⟩)
          have hS14 : SW w7 w13 := Below.trans HSr.out (Below.mono (Below.trans HSC.out (Below.mono (Below.trans HW.out (Below.mono hS13 HW.out.size)) HSC.out.size)) HSr.out.size)
          go_roundw
          case rel => exact ⟨k + 1, by omega, by go_num, hS14⟩
          case measure => simp [intOf]; omega
      · have d3 : decide (0 < k) = true := decide_eq_true (by omega)
        have i1 : (0 : Int) < (k : Int) := by omega
        have d4 : decide ((0 : Int) < (k : Int)) = true := decide_eq_true (by omega)
        obtain ⟨zz, hzz⟩ : ∃ zz, L[k - 1]? = some zz := ⟨_, List.getElem?_eq_getElem (by rw [HLN.out]; omega)⟩
        obtain ⟨b9, o9, e9, hl9, hc9⟩ := RowL.at8t (HR6.out.more (Below.trans HSr.out (Below.mono HSC.out HSr.out.size))) hzz
        cases e9
        have hpz := HPV.out zz h0 hzz
        have lo3 : decide (y.dep < zz.arr) = false := decide_eq_false (by omega)
        have lo4 : ¬ y.dep < zz.arr := by omega
        have p6c := hc9 6 _ rfl
        have ek : ((k : Int) - 1).toNat = k - 1 := by omega
        have eb : (0 : Int) ≤ (k : Int) - 1 := by omega
        have ec : (k : Int) - 1 < (f.lg.length : Int) := by omega
        clear hc9 hl9 hzz hpz
        have F3 := SW.cell m3
        have F4 := SW.cell m4
        have U0 := SW.cell u0c
        have T0 := SW.cell t0c
        have U1 := SW.cell u1c
        have T1 := SW.cell t1c
        have U2 := SW.cell u2c
        have T2 := SW.cell t2c
        have U3 := SW.cell u3c
        have T3 := SW.cell t3c
        have U4 := SW.cell u4c
        have T4 := SW.cell t4c
        have U5 := SW.cell u5c
        have T5 := SW.cell t5c
        have U6 := SW.cell u6c
        have T6 := SW.cell t6c
        have U7 := SW.cell u7c
        have T7 := SW.cell t7c
        have P6 := SW.cell p6c
        clear p6c
        clear m3 m4 u0c t0c u1c t1c u2c t2c u3c t3c u4c t4c u5c t5c u6c t6c u7c t7c h0
        go_wp2
        have hNe : Nonempty (Wd (SW w10)) := ⟨⟨_, SW.drew _⟩⟩
        refine quietS (S := SW w10) (by kernel_rfl) (by kernel_rfl) (SW.drew _) ?_
        repeat (first | go_big_quiet_skip | (go_big_quiet_want; go_big_quiet_op; first | go_big_quiet_on | go_big_quiet_call ((fail))))
        refine wpQuiet_nil ?_
        rintro W ⟨⟨_, hW⟩, rfl⟩
        have HW := Lib.hid hW
        clear lo1 lo2 s0 s1 s2 s3 n0 n1 n2 n3 d3 d4 i1 U0 T0 U1 T1 U2 T2 U3 T3 U4 T4 U6 T6 U7 T7 T5 lo3 lo4 P6
        have G3 : ∀ x : Wd (SW W), x.w.cell? ⟨N, 3, none⟩ = some (.int .i64 a.off) := fun x => F3 ⟨x.w, Below.trans HW.out (Below.mono x.ok HW.out.size)⟩
        have G4 : ∀ x : Wd (SW W), x.w.cell? ⟨N, 4, none⟩ = some (.slice A9 a.shs.length c9) := fun x => F4 ⟨x.w, Below.trans HW.out (Below.mono x.ok HW.out.size)⟩
        have G5 := fun x : Wd (SW W) => U5 ⟨x.w, Below.trans HW.out (Below.mono x.ok HW.out.size)⟩
        clear F3 F4 U5 hW
        generalize W = w12 at *
        have KGB : Hid (∀ V, SW w12 V → Calls Try.prog 11 #[.agg #[.int .i64 a.off, .slice A9 a.shs.length c9], .int .i64 y.dep] V fun e w' => e = .returned (.int .i64 G) ∧ SW w12 w') := Lib.hid (SW.call (fun V h => ((KG.out V (Below.trans HW.out (Below.mono h HW.out.size)))).mono (by rintro e w' ⟨rfl, hb⟩; exact ⟨rfl, hb⟩)))
        have KXB : Hid (∀ V, SW w12 V → Calls Try.prog 12 #[.agg #[.int .i64 a.off, .slice A9 a.shs.length c9], .int .i64 (day * 1440 + x.dep)] V fun e w' => e = .returned (.bool (decide (utcZ a.off a.shs (day * 1440 + x.dep) ≤ lastZ a.off a.shs (day * 1440 + x.dep)))) ∧ SW w12 w') := Lib.hid (SW.call (fun V h => KX.out V (Below.trans HW.out (Below.mono h HW.out.size))))
        go_wp2
        have hNe : Nonempty (Wd (SW w12)) := ⟨⟨_, SW.drew _⟩⟩
        refine quietS (S := SW w12) (by kernel_rfl) (by kernel_rfl) (SW.drew _) ?_
        repeat (first | go_big_quiet_skip | (go_big_quiet_want; go_big_quiet_op; first | go_big_quiet_on | go_big_quiet_call (((go_at_call 11; exact quiet_S (KGB.out _ (Wd.ok _)))))))
        refine wpQuiet_nil ?_
        rintro W ⟨⟨_, hW⟩, rfl⟩
        have a3 := G3 ⟨W, hW⟩
        have a4 := G4 ⟨W, hW⟩
        dsimp only at a3 a4
        have HW2 := Lib.hid hW
        clear G3 G4 G5 hW
        cases hex : decide (utcZ a.off a.shs (day * 1440 + x.dep) ≤ lastZ a.off a.shs (day * 1440 + x.dep)) with
        | false =>
          rw [hex] at KXB
          have lo5 : ¬ G < day * 1440 + x.dep := by have := HGE.out; omega
          clear hex
          go_wp2_with (go_at_call 12; refine (KXB.out _ HW2.out).mono ?_; rintro e w13 ⟨rfl, hS13⟩)
          have hS14 : SW w7 w13 := Below.trans HSr.out (Below.mono (Below.trans HSC.out (Below.mono (Below.trans HW.out (Below.mono hS13 HW.out.size)) HSC.out.size)) HSr.out.size)
          go_roundw
          case rel => exact ⟨k + 1, by omega, by go_num, hS14⟩
          case measure => simp [intOf]; omega
        | true =>
          rw [hex] at KXB
          have he := HEQ.out (of_decide_eq_true hex)
          have lo6 : (G != day * 1440 + x.dep) = false := by rw [he]; simp
          have lo5 : ¬ G < day * 1440 + x.dep := by have := HGE.out; omega
          clear hex he
          go_wp2_with (go_at_call 12; refine (KXB.out _ HW2.out).mono ?_; rintro e w13 ⟨rfl, hS13⟩)
          have hS14 : SW w7 w13 := Below.trans HSr.out (Below.mono (Below.trans HSC.out (Below.mono (Below.trans HW.out (Below.mono hS13 HW.out.size)) HSC.out.size)) HSr.out.size)
          go_roundw
          case rel => exact ⟨k + 1, by omega, by go_num, hS14⟩
          case measure => simp [intOf]; omega

end Go.Proofs.Ytmmpalnalogfnaa
