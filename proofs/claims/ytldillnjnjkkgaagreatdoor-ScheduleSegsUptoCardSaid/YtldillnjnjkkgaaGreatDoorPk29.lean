/- Words and walks that the laws below ask: Sg8P, Sg8. -/
import Derived.Test.YtldillnjnjkkgaaGreatDoorPk15
import Derived.Test.YtldillnjnjkkgaaGreatDoorPk25
namespace Go.Proofs.YtldillnjnjkkgaaGreatDoor
open Go.RowKit Go.Shelf
set_option linter.unusedSimpArgs false
set_option linter.unusedVariables false
theorem lgs_next {l : List Air} {lg : List Lg} (h : lgsF l lg lg.length = []) {k : Nat} {x : Lg} (hk : lg[k]? = some x) : nextB (lg.take k) x = true := by
  have h3 := lgs_at h hk
  have h4 : (if (!nextB (lg.take k) x) = true then (15 : Int) else 0) = 0 := by
    have := List.filter_eq_nil_iff.1 h3 (if (!nextB (lg.take k) x) = true then (15 : Int) else 0) (by simp [lgEs])
    simpa using this
  cases h5 : nextB (lg.take k) x
  · rw [h5] at h4; simp at h4
  · rfl
theorem lgs_meet {l : List Air} {lg : List Lg} (h : lgsF l lg lg.length = []) {k : Nat} {x y : Lg} (hk : lg[k]? = some x) (h0 : k ≠ 0) (hy : lg[k - 1]? = some y) : (x.f.toList == y.t.toList) = true := by
  have h3 := lgs_next h hk
  unfold nextB at h3
  rw [Bool.and_eq_true] at h3
  have hlt := (List.getElem?_eq_some_iff.1 hk).1
  have h4 := h3.1
  unfold badF at h4
  rw [List.getLast?_eq_getElem?, List.length_take, Nat.min_eq_left (by omega), List.getElem?_take, if_pos (by omega), hy] at h4
  simpa using h4
structure FliAt (w : World) (N : Nat) (f : FV) (A : Option Addr) (c : Nat) : Prop where
  c0 : w.cell? ⟨N, 0, none⟩ = some (.string f.car)
  c1 : w.cell? ⟨N, 1, none⟩ = some (.int .i64 f.num)
  c2 : w.cell? ⟨N, 2, none⟩ = some (.int .i64 f.pf)
  c3 : w.cell? ⟨N, 3, none⟩ = some (.int .i64 f.pt)
  c4 : w.cell? ⟨N, 4, none⟩ = some (.int .i64 f.pd)
  c5 : w.cell? ⟨N, 5, none⟩ = some (.slice A f.lg.length c)
theorem fliAt_row {w : World} {N : Nat} {f : FV} {A : Option Addr} {c : Nat} {X : Array Value} (h : w.heap[N]? = some (.cells X fliT (0, 0))) (hX : Hid (X = fliX f A c)) : FliAt w N f A c := by
  have e := hX.out
  subst e
  exact ⟨(cell_of_row w _ 0 _ _ (0, 0) h).trans (show _ = some _ from rfl), (cell_of_row w _ 1 _ _ (0, 0) h).trans (show _ = some _ from rfl), (cell_of_row w _ 2 _ _ (0, 0) h).trans (show _ = some _ from rfl), (cell_of_row w _ 3 _ _ (0, 0) h).trans (show _ = some _ from rfl), (cell_of_row w _ 4 _ _ (0, 0) h).trans (show _ = some _ from rfl), (cell_of_row w _ 5 _ _ (0, 0) h).trans (show _ = some _ from rfl)⟩
theorem legl_but {w w' : World} {N n c : Nat} {A : Option Addr} {l : List Lg} (hL : LegL w (.slice A n c) l) (h : w.heap[N]? = some (.cells #[.string noB, .int .i64 0, .int .i64 0, .int .i64 0, .int .i64 0, .slice none 0 0] fliT (0, 0))) (hB : But w w' (fun j => j = N)) : LegL w' (.slice A n c) l := by
  by_cases hne : l = []
  · subst hne
    obtain ⟨A', c', e, _⟩ := hL
    cases e
    exact ⟨A, c, rfl, .inl rfl⟩
  refine RowL.but2 hL hB (fun b o e he => ?_)
  obtain ⟨b', o', e2, _, hc⟩ := RowL.at0 hL hne
  rw [e] at e2
  cases e2
  obtain ⟨x, r, rfl⟩ : ∃ x r, l = x :: r := by cases l with | nil => exact absurd rfl hne | cons x r => exact ⟨x, r, rfl⟩
  have h0 := hc 0 x 0 _ rfl rfl
  have h1 := hc 0 x 1 _ rfl rfl
  have hbN : b = N := he
  subst hbN
  rw [cell_of_row w _ _ _ _ (0, 0) h] at h0 h1
  simp only [Nat.zero_mul, Nat.add_zero] at h0 h1
  match o, h0, h1 with
  | 0, h0, h1 => simp at h1
  | 1, h0, h1 => simp at h0
  | 2, h0, h1 => simp at h0
  | 3, h0, h1 => simp at h0
  | 4, h0, h1 => simp at h0
  | 5, h0, h1 => simp at h0
  | o + 6, h0, h1 => simp at h0
theorem lgs_off8 {l : List Air} {lg : List Lg} (h : lgsF l lg lg.length = []) {j k : Nat} {x y : Lg} (hk : lg[k]? = some y) (hj : lg[j]? = some x) (hjk : j ≤ k) : (x.f.toList == y.t.toList) = false := by
  have h1 := lgs_next h hk
  unfold nextB at h1
  rw [Bool.and_eq_true, Bool.and_eq_true] at h1
  obtain ⟨_, h2, h3⟩ := h1
  by_cases e : j = k
  · subst e
    rw [hk] at hj
    cases hj
    rw [beq_eq_false_iff_ne]
    intro e2
    rw [e2] at h2
    simp at h2
  · have hm : x ∈ lg.take k := by
      have : (lg.take k)[j]? = some x := by rw [List.getElem?_take, if_pos (by omega)]; exact hj
      exact List.mem_of_getElem? this
    cases hq : (x.f.toList == y.t.toList)
    · rfl
    · have : (lg.take k).any (fun b => b.f.toList == y.t.toList) = true := List.any_eq_true.2 ⟨x, hm, hq⟩
      rw [this] at h3
      simp at h3
theorem beq_lists8 {a b : List UInt8} (h : (a == b) = true) : a = b := by simpa using h
theorem lgs_fne8 {l : List Air} {lg : List Lg} (h : lgsF l lg lg.length = []) {j k : Nat} {x y : Lg} (hj : lg[j]? = some x) (hk : lg[k]? = some y) (hjk : j < k) : x.f.toList ≠ y.f.toList := by
  have hlt := (List.getElem?_eq_some_iff.1 hk).1
  obtain ⟨z, hz⟩ : ∃ z, lg[k - 1]? = some z := ⟨_, List.getElem?_eq_getElem (by omega)⟩
  have h1 := lgs_meet h hk (by omega) hz
  have h2 := lgs_off8 h hz hj (by omega)
  rw [beq_eq_false_iff_ne] at h2
  rw [beq_lists8 h1]
  exact h2
theorem lgs_tne8 {l : List Air} {lg : List Lg} (h : lgsF l lg lg.length = []) {j k : Nat} {x y : Lg} (hj : lg[j]? = some x) (hk : lg[k]? = some y) (hjk : j < k) : x.t.toList ≠ y.t.toList := by
  have hlt := (List.getElem?_eq_some_iff.1 hk).1
  obtain ⟨z, hz⟩ : ∃ z, lg[j + 1]? = some z := ⟨_, List.getElem?_eq_getElem (by omega)⟩
  have h1 := lgs_meet h hz (by omega) (y := x) (by simpa using hj)
  have h2 := lgs_off8 h hk hz (by omega)
  rw [beq_eq_false_iff_ne] at h2
  rw [← beq_lists8 h1]
  exact h2
theorem idx_uniq8 {lg : List Lg} (g : Lg → List UInt8) (h : ∀ (j k : Nat) (x y : Lg), lg[j]? = some x → lg[k]? = some y → j < k → g x ≠ g y) {j k : Nat} {x y : Lg} (hj : lg[j]? = some x) (hk : lg[k]? = some y) (e : g x = g y) : j = k := by
  rcases Nat.lt_trichotomy j k with h1 | h1 | h1
  · exact absurd e (h j k x y hj hk h1)
  · exact h1
  · exact absurd e.symm (h k j y x hk hj h1)
theorem map_at8 {l : List Air} {f : FV} {day : Int} {k : Nat} {d : Dt} (h : (f.lg.map (datL l f day))[k]? = some d) : ∃ x, f.lg[k]? = some x ∧ d = datL l f day x := by
  rw [List.getElem?_map] at h
  cases hx : f.lg[k]? with
  | none => rw [hx] at h; cases h
  | some x => rw [hx] at h; cases h; exact ⟨x, rfl, rfl⟩
theorem ValT.segSelf {p : PV} {fs : List FV} (h : ValT p fs) {k : Nat} {f : FV} {day : Int} {s : Sg} (hk : fs[k]? = some f) (hs : s ∈ segsL (legF p.l f day)) : segF p.l fs s.car s.num s.day s.f s.t = (0, s) := by
  have hn : lgsF p.l f.lg f.lg.length = [] := (chF_nil (h.mem (List.mem_of_getElem? hk))).2.2.1
  obtain ⟨i, j, x, y, hx, hy, hij, e⟩ := segsL_mem hs
  obtain ⟨hq, c1, n1, d1⟩ := legF_mem (List.mem_of_getElem? hx)
  have hL : legF p.l f day = f.lg.map (datL p.l f day) := by rw [legF, hq]; rfl
  have ho := h.on hk hq
  have e1 : s.car = f.car := by rw [e]; exact c1
  have e2 : s.num = f.num := by rw [e]; exact n1
  have e3 : s.day = day := by rw [e]; exact d1
  have h2 : (segsL (legF p.l f day)).find? (ftB s.f s.t) = some s := by
    cases hf : (segsL (legF p.l f day)).find? (ftB s.f s.t) with
    | none =>
      have := List.find?_eq_none.1 hf _ hs
      simp [ftB] at this
    | some s' =>
      have hm := List.mem_of_find?_eq_some hf
      have hp := List.find?_some hf
      obtain ⟨i', j', x', y', hx', hy', _, e'⟩ := segsL_mem hm
      unfold ftB at hp
      simp only [Bool.and_eq_true] at hp
      obtain ⟨p1, p2⟩ := hp
      have q1 := beq_lists8 p1
      have q2 := beq_lists8 p2
      rw [hL] at hx hy hx' hy'
      obtain ⟨a, ha, rfl⟩ := map_at8 hx
      obtain ⟨b, hb, rfl⟩ := map_at8 hy
      obtain ⟨a', ha', rfl⟩ := map_at8 hx'
      obtain ⟨b', hb', rfl⟩ := map_at8 hy'
      rw [e, e'] at q1 q2
      have u1 : i' = i := idx_uniq8 (fun z => z.f.toList) (fun j k x y h1 h2 h3 => lgs_fne8 hn h1 h2 h3) ha' ha q1
      have u2 : j' = j := idx_uniq8 (fun z => z.t.toList) (fun j k x y h1 h2 h3 => lgs_tne8 hn h1 h2 h3) hb' hb q2
      rw [u1] at ha'
      rw [u2] at hb'
      rw [ha] at ha'
      rw [hb] at hb'
      rw [e, e', Option.some.inj ha', Option.some.inj hb']
  refine segF_hit (f := f) ?_ ?_
  · rw [e1, e2, e3]; exact ho
  · rw [e3]; exact h2
theorem oper_alt {L : List Air} {fs : List FV} {s : Sg} (e : segF L fs s.car s.num s.day s.f s.t = (0, s)) (d a : Int) : operB L fs ⟨s.car, s.num, s.day, s.f, s.t, d, a⟩ = ((s.dep == d) && (s.arr == a)) := by
  unfold operB
  show ((segF L fs s.car s.num s.day s.f s.t).1 == 0 && eqSg (segF L fs s.car s.num s.day s.f s.t).2 _) = _
  rw [e]
  simp [eqSg]
theorem oper_past (L : List Air) (fs : List FV) (s : Sg) (d : Int) (hd : d < 0) : operB L fs ⟨s.car, s.num, d, s.f, s.t, s.dep, s.arr⟩ = false := by
  have : onF fs s.car s.num d = none := by
    cases hb : onF fs s.car s.num d with
    | none => rfl
    | some f =>
      obtain ⟨_, _, _, hq⟩ := onF_at hb
      have := (days_bd ((Per.daysQ_mem _ _).2 hq)).1
      omega
  unfold operB
  show ((segF L fs s.car s.num d s.f s.t).1 == 0 && _) = false
  rw [segF_none this]
  rfl
theorem ValT.segOp {p : PV} {fs : List FV} (h : ValT p fs) {k : Nat} {f : FV} {day : Int} {s : Sg} (hk : fs[k]? = some f) (hs : s ∈ segsL (legF p.l f day)) :
    operB p.l fs ⟨s.car, s.num, s.day, s.f, s.t, s.dep, s.arr⟩ = true ∧ operB p.l fs ⟨s.car, s.num, s.day, s.f, s.t, wrap64 (s.dep - 1), s.arr⟩ = false ∧ operB p.l fs ⟨s.car, s.num, s.day, s.f, s.t, s.dep, wrap64 (s.arr + 1)⟩ = false ∧ operB p.l fs ⟨s.car, s.num, -1, s.f, s.t, s.dep, s.arr⟩ = false := by
  have e := h.segSelf hk hs
  refine ⟨?_, ?_, ?_, oper_past _ _ _ _ (by omega)⟩
  · rw [oper_alt e]; simp
  · rw [oper_alt e]
    have : (s.dep == wrap64 (s.dep - 1)) = false := by rw [beq_eq_false_iff_ne]; unfold wrap64; omega
    rw [this]; rfl
  · rw [oper_alt e]
    have : (s.arr == wrap64 (s.arr + 1)) = false := by rw [beq_eq_false_iff_ne]; unfold wrap64; omega
    rw [this]; simp
theorem seg_days {l : List Air} {f : FV} {day : Int} {s : Sg} (hs : s ∈ segsL (legF l f day)) : s.day = day := by
  obtain ⟨x, hx, y, hy, e⟩ := segsI_mem hs
  rw [e]
  exact (legF_mem hx).2.2.2
abbrev obZ : Obj := .cells #[.string noB, .int .i64 0, .int .i64 0, .string noB, .string noB, .int .i64 0, .int .i64 0] segT
abbrev al3 (w : World) (o : Obj) : World := ((w.alloc o).alloc o).alloc o
def SgAt (w : World) (N : Nat) (s : Sg) : Prop := w.heap[N]? = some (.cells #[.string s.car, .int .i64 s.num, .int .i64 s.day, .string s.f, .string s.t, .int .i64 s.dep, .int .i64 s.arr] segT (0, 0))
theorem SgAt.cell {w : World} {N : Nat} {s : Sg} (h : SgAt w N s) (j : Nat) (v : Value) (hv : (#[Value.string s.car, .int .i64 s.num, .int .i64 s.day, .string s.f, .string s.t, .int .i64 s.dep, .int .i64 s.arr] : Array Value)[j]? = some v) : w.cell? ⟨N, j, none⟩ = some v := by
  exact (cell_of_row w N j _ _ (0, 0) h).trans hv
theorem SgAt.fz {w : World} {N : Nat} {s : Sg} (h : SgAt w N s) (j : Nat) : w.frozen? ⟨N, j, none⟩ = false := frozen_of_row w _ j _ _ h
theorem SgAt.lt {w : World} {N : Nat} {s : Sg} (h : SgAt w N s) : N < w.heap.size := lt_of_cell2 h
theorem SgAt.but {w w' : World} {N M : Nat} {s : Sg} (h : SgAt w N s) (hB : But w w' (fun j => j = M)) (hne : N ≠ M) : SgAt w' N s := (hB.block _ h.lt hne).trans h
theorem SgAt.dep {w : World} {N : Nat} {s : Sg} (h : SgAt w N s) (d : Int) : SgAt (w.setCell ⟨N, 5, none⟩ (.int .i64 d)) N ⟨s.car, s.num, s.day, s.f, s.t, d, s.arr⟩ := heap_setCell_same w N 5 _ segT _ h
theorem SgAt.arr {w : World} {N : Nat} {s : Sg} (h : SgAt w N s) (d : Int) : SgAt (w.setCell ⟨N, 6, none⟩ (.int .i64 d)) N ⟨s.car, s.num, s.day, s.f, s.t, s.dep, d⟩ := heap_setCell_same w N 6 _ segT _ h
theorem SgAt.day {w : World} {N : Nat} {s : Sg} (h : SgAt w N s) (d : Int) : SgAt (w.setCell ⟨N, 2, none⟩ (.int .i64 d)) N ⟨s.car, s.num, d, s.f, s.t, s.dep, s.arr⟩ := heap_setCell_same w N 2 _ segT _ h
theorem zer_but {w w' : World} {N M : Nat} {o : Obj} (h : w.heap[N]? = some o) (hB : But w w' (fun j => j = M)) (hne : N ≠ M) : w'.heap[N]? = some o := (hB.block _ (lt_of_cell2 h) hne).trans h
theorem alloc_three (w : World) (o : Obj) : (((w.alloc o).alloc o).alloc o).heap[w.heap.size]? = some o ∧ (((w.alloc o).alloc o).alloc o).heap[w.heap.size + 1]? = some o ∧ (((w.alloc o).alloc o).alloc o).heap[w.heap.size + 2]? = some o := by
  have b1 := bel_alloc w o
  have b2 := bel_alloc (w.alloc o) o
  have b3 := bel_alloc ((w.alloc o).alloc o) o
  have h1 := heap_alloc_new w o
  have h2 := heap_alloc_new (w.alloc o) o
  have h3 := heap_alloc_new ((w.alloc o).alloc o) o
  refine ⟨?_, ?_, ?_⟩
  · exact (b3.block _ (by rw [World.size_alloc, World.size_alloc]; omega)).trans ((b2.block _ (by rw [World.size_alloc]; omega)).trans h1)
  · rw [World.size_alloc] at h2
    exact (b3.block _ (by rw [World.size_alloc, World.size_alloc]; omega)).trans h2
  · rw [World.size_alloc, World.size_alloc] at h3
    exact h3
set_option maxRecDepth 100000 in
set_option maxHeartbeats 8000000 in
theorem scheduleSegs_walk (p : PV) (v : Value) (fs : List FV) (a day : Int) (bd : -9223372036854775808 ≤ day ∧ day ≤ 9223372036854775807) (w : World) (hi : Inp p fs) (hP : PlL w p) (hv : TblL w v fs) :
    Calls Tryz.prog 6 #[encP p, v, .int .i64 a, .int .i64 day] w fun e w' => e = .returned (.bool true) ∧ Below w.heap.size w w' := by
  have hb0 := bel_alloc w (.cells #[.slice p.A p.l.length p.ca, .slice p.D p.ds.length p.cd] placesT)
  have p0 := (cells_new w #[.slice p.A p.l.length p.ca, .slice p.D p.ds.length p.cd] placesT 0).trans (show _ = some (Value.slice p.A p.l.length p.ca) from rfl)
  have p1 := (cells_new w #[.slice p.A p.l.length p.ca, .slice p.D p.ds.length p.cd] placesT 1).trans (show _ = some (Value.slice p.D p.ds.length p.cd) from rfl)
  have HP := Lib.hid (hP.more hb0)
  have HV := Lib.hid (hv.more hb0)
  have HI := Lib.hid hi
  have HB0 := Lib.hid hb0
  clear hP hv hi
  go_enter Tryz.func6, Tryz.ntmps6
  go_upto_region 1 with fail
  generalize hw5 : w.alloc (.cells #[.slice p.A p.l.length p.ca, .slice p.D p.ds.length p.cd] placesT) = w5 at *
  clear hw5
  have Fp0 := Lib.hid (bel_get p0)
  have Fp1 := Lib.hid (bel_get p1)
  clear p0 p1
  have KW : Hid (∀ W, SW w5 W → Calls Tryz.prog 25 #[] W fun e w' => e = .returned (.bool true) ∧ SW w5 w') := Lib.hid (SW.call (fun W h => knows_any W))
  have KF : Hid (∀ W, SW w5 W → Calls Tryz.prog 21 #[encP p, v] W (FewPost p fs W)) := Lib.hid (fun W h => few_any p v fs W HI.out (HP.out.more h) (HV.out.more h))
  have hS : SW w5 w5 := Below.refl _ _
  have kp0 := Fp0.out _ hS
  have kp1 := Fp1.out _ hS
  go_wp2_with (go_at_call 21; refine (KF.out _ hS).mono ?_; rintro e w1 ⟨bF, rfl, hF, hb1⟩; have hS : SW w5 w1 := Below.trans hS (Below.mono hb1 hS.size); refine Hid.out ?_)
  clear kp0 kp1 KF hb1
  cases bF with
  | false =>
    refine Lib.hid ?_
    clear hF
    go_wp2_with (go_at_call 25; refine (KW.out _ hS).mono ?_; rintro e w9 ⟨rfl, hS⟩)
    go_ret
    exact ⟨rfl, hb0.trans (Below.mono hS hb0.size)⟩
  | true =>
  obtain ⟨sm, hc⟩ := hF rfl
  clear hF
  obtain ⟨A, c, rfl, _⟩ := id HV.out.row
  refine Lib.hid ?_
  by_cases ha : a < 0
  case pos =>
    have ha2 : decide (a < 0) = true := decide_eq_true ha
    clear sm hc
    go_wp2_with (go_at_call 25; refine (KW.out _ hS).mono ?_; rintro e w9 ⟨rfl, hS⟩)
    go_ret
    exact ⟨rfl, hb0.trans (Below.mono hS hb0.size)⟩
  case neg =>
  obtain ⟨k, rfl⟩ : ∃ k : Nat, a = (k : Int) := ⟨a.toNat, by omega⟩
  by_cases hk : k < fs.length
  case neg =>
    have i1 : (fs.length : Int) ≤ (k : Int) := by omega
    have i2 : fs.length ≤ k := by omega
    clear sm hc hk
    go_wp2_with (go_at_call 25; refine (KW.out _ hS).mono ?_; rintro e w9 ⟨rfl, hS⟩)
    go_ret
    exact ⟨rfl, hb0.trans (Below.mono hS hb0.size)⟩
  case pos =>
  have i1 : ¬ (fs.length : Int) ≤ (k : Int) := by omega
  have i2 : ¬ fs.length ≤ k := by omega
  have i3 : (k : Int) < (fs.length : Int) := by omega
  have i4 : ¬ (k : Int) < 0 := by omega
  have KC : Hid (∀ W, SW w5 W → Calls Tryz.prog 24 #[encP p, .slice A fs.length c] W fun e w' => ∃ A c, e = .returned (.slice A (schF p.l fs fs.length).length c) ∧ SW w5 w') := Lib.hid (fun W h => (rscheck_few W HI.out (HP.out.more h) (HV.out.more h) sm hc).mono (by rintro e w' ⟨r, rfl, hr, hb⟩; obtain ⟨A, c, rfl, _⟩ := id hr; exact ⟨A, c, rfl, Below.trans h (Below.mono hb h.size)⟩))
  have kp0 := Fp0.out _ hS
  have kp1 := Fp1.out _ hS
  refine Lib.hid ?_
  by_cases hs0 : schF p.l fs fs.length = []
  case neg =>
    have hcl : (0 : Int) < ((schF p.l fs fs.length).length : Int) := by
      have : (schF p.l fs fs.length).length ≠ 0 := fun h => hs0 (List.eq_nil_of_length_eq_zero h)
      omega
    have hcn : 0 < (schF p.l fs fs.length).length := by omega
    clear hs0 sm hc
    generalize (schF p.l fs fs.length).length = n0 at *
    go_wp2_with (first
      | (go_at_call 25; refine (KW.out _ hS).mono ?_; rintro e w9 ⟨rfl, hS⟩)
      | (go_at_call 24; refine (KC.out _ hS).mono ?_; rintro e w2 ⟨A2, c2, rfl, hS⟩))
    go_ret
    exact ⟨rfl, hb0.trans (Below.mono hS hb0.size)⟩
  case pos =>
  have HVT : Hid (ValT p fs) := Lib.hid ⟨sm, hc, hs0⟩
  rw [hs0] at KC
  simp only [List.length_nil] at KC
  clear sm hc hs0
  go_upto_region 3 with (go_at_call 24; refine (KC.out _ hS).mono ?_; rintro e w2 ⟨A2, c2, rfl, hS⟩)
  clear kp0 kp1 KC ha
  have HS2 := Lib.hid hS
  obtain ⟨f, hf⟩ : ∃ f, fs[k]? = some f := ⟨_, List.getElem?_eq_getElem hk⟩
  have hfm := List.mem_of_getElem? hf
  have hvk := HV.out.more hS
  obtain ⟨b, o, e1, hbl, hcc⟩ := RowL.at6 hvk.row hf
  cases e1
  have d0 := hcc 0 _ rfl
  have d1 := hcc 1 _ rfl
  have d2 := hcc 2 _ rfl
  have d3 := hcc 3 _ rfl
  have d4 := hcc 4 _ rfl
  have d5 := hcc 5 _ rfl
  rw [Nat.add_zero] at d0
  have g0 := bel_get d0
  have g1 := bel_get d1
  have g2 := bel_get d2
  have g3 := bel_get d3
  have g4 := bel_get d4
  have g5 := bel_get d5
  have z0 : ∀ W, SW w2 W → W.cell? ⟨w.heap.size, 0, none⟩ = some (.slice p.A p.l.length p.ca) := fun W h => Fp0.out W (Below.trans HS2.out (Below.mono h HS2.out.size))
  have z1 : ∀ W, SW w2 W → W.cell? ⟨w.heap.size, 1, none⟩ = some (.slice p.D p.ds.length p.cd) := fun W h => Fp1.out W (Below.trans HS2.out (Below.mono h HS2.out.size))
  have l1 : fs.length ≤ 1000 := HVT.out.okT.len
  have na : ∀ f ∈ fs, f.lg.length ≤ 1000 := fun f hf => by have := HVT.out.okT.lg f hf; omega
  obtain ⟨g, hg⟩ : ∃ g, g = (onF fs f.car f.num day).getD fliZ := ⟨_, rfl⟩
  obtain ⟨s, hs⟩ : ∃ s, s = (onF fs f.car f.num day).isSome := ⟨_, rfl⟩
  obtain ⟨S, hSS⟩ : ∃ S, S = segsL (legF p.l f day) := ⟨_, rfl⟩
  obtain ⟨e0, he0⟩ : ∃ e0, e0 = legE f day := ⟨_, rfl⟩
  have HX : Hid (e0 = 0 → g = f ∧ s = true) := Lib.hid (fun h => by
    have hq : Per.hasQ (f.pf, f.pt, f.pd) day = true := by
      cases hh : Per.hasQ (f.pf, f.pt, f.pd) day with
      | true => rfl
      | false => rw [he0, legE, hh] at h; cases h
    have := HVT.out.on hf hq
    rw [hg, hs, this]
    exact ⟨rfl, rfl⟩)
  have hSl : S.length ≤ 10000 := by rw [hSS]; exact segs_len p.l f day (HVT.out.okT.lg f hfm)
  have HM : Hid (∀ x ∈ S, x.day = day ∧ operB p.l fs ⟨x.car, x.num, x.day, x.f, x.t, x.dep, x.arr⟩ = true ∧ operB p.l fs ⟨x.car, x.num, x.day, x.f, x.t, wrap64 (x.dep - 1), x.arr⟩ = false ∧ operB p.l fs ⟨x.car, x.num, x.day, x.f, x.t, x.dep, wrap64 (x.arr + 1)⟩ = false ∧ operB p.l fs ⟨x.car, x.num, -1, x.f, x.t, x.dep, x.arr⟩ = false) := Lib.hid (fun x hx => by
    rw [hSS] at hx
    exact ⟨seg_days hx, HVT.out.segOp hf hx⟩)
  have KG : Hid (∀ W, SW w2 W → Calls Tryz.prog 34 #[encP p, encFl f, .int .i64 day] W fun e w' => ∃ A' c', e = .returned (.tuple #[.slice A' S.length c', .int .i64 e0]) ∧ RowL 7 encSg w' (.slice A' S.length c') S ∧ SW w2 w') := Lib.hid (fun W h => by
    have op := HVT.out.okPl (List.ne_nil_of_mem hfm)
    have hW5 := Below.trans HS2.out (Below.mono h HS2.out.size)
    have h1 := segs_any p f day W op.la (HP.out.more hW5).air op.sh op.oz ((hvk.legs f hfm).more h) (HVT.out.okT.lg f hfm) (HVT.out.okT.hm f hfm) bd.1 bd.2
    rw [← hSS, ← he0] at h1
    exact h1.mono (by rintro e w' ⟨r, rfl, hO, hb⟩; have hr := hO.rowL rtG.len; obtain ⟨A', c', rfl, _⟩ := id hr; exact ⟨A', c', rfl, hr, Below.trans h (Below.mono hb h.size)⟩))
  have KO : Hid (∀ W, SW w2 W → Calls Tryz.prog 26 #[.slice (some ⟨b, o, none⟩) fs.length c, .string f.car, .int .i64 f.num, .int .i64 day] W (OnX g s W)) := Lib.hid (fun W h => by rw [hg, hs]; exact on_x (.slice (some ⟨b, o, none⟩) fs.length c) fs f.car f.num day W (hvk.more h) l1 na bd.1 bd.2)
  have KS : Hid (∀ (A1 : Option Addr) (c1 : Nat) W, LegL W (.slice A1 f.lg.length c1) f.lg → SW w2 W → Calls Tryz.prog 20 #[.agg #[.string f.car, .int .i64 f.num, .int .i64 f.pf, .int .i64 f.pt, .int .i64 f.pd, .slice A1 f.lg.length c1], .agg #[.string f.car, .int .i64 f.num, .int .i64 f.pf, .int .i64 f.pt, .int .i64 f.pd, .slice f.A f.lg.length f.c]] W fun e w' => e = .returned (.bool true) ∧ Below W.heap.size W w') := Lib.hid (fun A1 c1 W h1 h => by
    have h2 := rsame_any7 (f.re A1 c1) f W h1 ((hvk.legs f hfm).more h) (na f hfm) (na f hfm)
    rw [show sameB (f.re A1 c1) f = true from by simp [sameB, FV.re, sameL_refl]] at h2
    exact h2)
  have KP : Hid (∀ (x : Sg) (r : Bool) W, -9223372036854775808 ≤ x.day → x.day ≤ 9223372036854775807 → operB p.l fs x = r → SW w2 W → Calls Tryz.prog 33 #[encP p, .slice (some ⟨b, o, none⟩) fs.length c, .agg (sgX x)] W fun e w' => e = .returned (.bool r) ∧ Below W.heap.size W w') := Lib.hid (fun x r W h0 h1 hr h => by
    have hW5 := Below.trans HS2.out (Below.mono h HS2.out.size)
    have h2 := oper_x HVT.out x W (HP.out.more hW5).air (HV.out.more hW5) h0 h1
    rw [hr] at h2
    exact h2)
  have KW2 : Hid (∀ W, SW w2 W → Calls Tryz.prog 25 #[] W fun e w' => e = .returned (.bool true) ∧ SW w5 w') := Lib.hid (fun W h => KW.out W (Below.trans HS2.out (Below.mono h HS2.out.size)))
  have HBD := Lib.hid bd
  clear hcc d0 d1 d2 d3 d4 d5 hf hfm hbl hvk hS hg hs hSS he0 na l1 bd KW i1 i2 i4
  have hS : (SW w2) _ := SW.drew _
  refine wp_region_held_drew (S := SW w2) (by kernel_rfl) hS (fun _ => ?_)
  refine wpAnyH_take (i := 0) (v := ?vE0) rfl (by kernel_rfl) (by kernel_rfl) (by kernel_rfl) (fun _ _ _ h => h) (Or.inl ⟨by rfl, ?hyE0⟩) hS ?restE0
  case hyE0 =>
    intro w hSw
    have k0 := z0 w hSw; have k1 := z1 w hSw; have k2 := g0 w hSw; have k3 := g1 w hSw; have k4 := g2 w hSw; have k5 := g3 w hSw; have k6 := g4 w hSw; have k7 := g5 w hSw
    first | (go_simp; done) | (go_simp; with_reducible rfl)
  try simp only [Act.put, List.setIfInBounds_toArray, List.set_cons_zero, List.set_cons_succ]
  refine wpAnyH_take (i := 1) (v := ?vE1) rfl (by kernel_rfl) (by kernel_rfl) (by kernel_rfl) (fun _ _ _ h => h) (Or.inl ⟨by rfl, ?hyE1⟩) hS ?restE1
  case hyE1 =>
    intro w hSw
    first | (go_simp; done) | (go_simp; with_reducible rfl)
  try simp only [Act.put, List.setIfInBounds_toArray, List.set_cons_zero, List.set_cons_succ]
  refine wpAnyH_take (i := 2) (v := ?vE2) rfl (by kernel_rfl) (by kernel_rfl) (by kernel_rfl) (fun _ _ _ h => h) (Or.inl ⟨by rfl, ?hyE2⟩) hS ?restE2
  case hyE2 =>
    intro w hSw
    first | (go_simp; done) | (go_simp; with_reducible rfl)
  try simp only [Act.put, List.setIfInBounds_toArray, List.set_cons_zero, List.set_cons_succ]
  refine wpAnyH_take (i := 3) (v := ?vE3) rfl (by kernel_rfl) (by kernel_rfl) (by kernel_rfl) (fun _ _ _ h => h) (Or.inl ⟨by rfl, ?hyE3⟩) hS ?restE3
  case hyE3 =>
    intro w hSw
    have k0 := z0 w hSw; have k1 := z1 w hSw; have k2 := g0 w hSw; have k3 := g1 w hSw; have k4 := g2 w hSw; have k5 := g3 w hSw; have k6 := g4 w hSw; have k7 := g5 w hSw
    first | (go_simp; done) | (go_simp; with_reducible rfl)
  try simp only [Act.put, List.setIfInBounds_toArray, List.set_cons_zero, List.set_cons_succ]
  refine wpAnyH_take (i := 4) (v := ?vE4) rfl (by kernel_rfl) (by kernel_rfl) (by kernel_rfl) (fun _ _ _ h => h) (Or.inl ⟨by rfl, ?hyE4⟩) hS ?restE4
  case hyE4 =>
    intro w hSw
    have k0 := z0 w hSw; have k1 := z1 w hSw; have k2 := g0 w hSw; have k3 := g1 w hSw; have k4 := g2 w hSw; have k5 := g3 w hSw; have k6 := g4 w hSw; have k7 := g5 w hSw
    first | (go_simp; done) | (go_simp; with_reducible rfl)
  try simp only [Act.put, List.setIfInBounds_toArray, List.set_cons_zero, List.set_cons_succ]
  refine wpAnyH_take (i := 5) (v := ?vE5) rfl (by kernel_rfl) (by kernel_rfl) (by kernel_rfl) (fun _ _ _ h => h) (Or.inl ⟨by rfl, ?hyE5⟩) hS ?restE5
  case hyE5 =>
    intro w hSw
    first | (go_simp; done) | (go_simp; with_reducible rfl)
  try simp only [Act.put, List.setIfInBounds_toArray, List.set_cons_zero, List.set_cons_succ]
  refine wpAnyH_ready (rs := [6]) (by kernel_rfl) (by simp) ?_
  refine AllReadyH.cons rfl (fun K hK => ?_) AllReadyH.nil
  go_simp
  go_wp2_with ((go_at_call 34; refine (KG.out _ hS).mono ?_; rintro e w8 ⟨A8, c8, rfl, hR8, hS⟩))
  refine hK.out _ _ hS (fun _ => ?_)
  clear hK K
  refine wpAnyH_take (i := 7) (v := ?vE7) rfl (by kernel_rfl) (by kernel_rfl) (by kernel_rfl) (fun _ _ _ h => h) (Or.inl ⟨by rfl, ?hyE7⟩) hS ?restE7
  case hyE7 =>
    intro w hSw
    first | (go_simp; done) | (go_simp; with_reducible rfl)
  try simp only [Act.put, List.setIfInBounds_toArray, List.set_cons_zero, List.set_cons_succ]
  refine wpAnyH_take (i := 8) (v := ?vE8) rfl (by kernel_rfl) (by kernel_rfl) (by kernel_rfl) (fun _ _ _ h => h) (Or.inl ⟨by rfl, ?hyE8⟩) hS ?restE8
  case hyE8 =>
    intro w hSw
    first | (go_simp; done) | (go_simp; with_reducible rfl)
  try simp only [Act.put, List.setIfInBounds_toArray, List.set_cons_zero, List.set_cons_succ]
  refine wpAnyH_take (i := 9) (v := ?vE9) rfl (by kernel_rfl) (by kernel_rfl) (by kernel_rfl) (fun _ _ _ h => h) (Or.inl ⟨by rfl, ?hyE9⟩) hS ?restE9
  case hyE9 =>
    intro w hSw
    first | (go_simp; done) | (go_simp; with_reducible rfl)
  try simp only [Act.put, List.setIfInBounds_toArray, List.set_cons_zero, List.set_cons_succ]
  refine wpAnyH_take (i := 10) (v := ?vE10) rfl (by kernel_rfl) (by kernel_rfl) (by kernel_rfl) (fun _ _ _ h => h) (Or.inl ⟨by rfl, ?hyE10⟩) hS ?restE10
  case hyE10 =>
    intro w hSw
    first | (go_simp; done) | (go_simp; with_reducible rfl)
  try simp only [Act.put, List.setIfInBounds_toArray, List.set_cons_zero, List.set_cons_succ]
  refine wpAnyH_take (i := 11) (v := ?vE11) rfl (by kernel_rfl) (by kernel_rfl) (by kernel_rfl) (fun _ _ _ h => h) (Or.inl ⟨by rfl, ?hyE11⟩) hS ?restE11
  case hyE11 =>
    intro w hSw
    first | (go_simp; done) | (go_simp; with_reducible rfl)
  try simp only [Act.put, List.setIfInBounds_toArray, List.set_cons_zero, List.set_cons_succ]
  refine wpAnyH_done (by kernel_rfl) ?_ _
  simp only [List.getElem_toArray, List.getElem_cons_succ, List.getElem_cons_zero, List.set_cons_zero, List.set_cons_succ]
  try simp only [List.setIfInBounds_toArray, List.set_cons_zero, List.set_cons_succ]
  have HR8 := Lib.hid hR8
  have HS8 := Lib.hid hS
  clear hR8 hS KG
  have HT8 : Hid (∀ W, SW w8 W → SW w2 W) := Lib.hid (fun W h => Below.trans HS8.out (Below.mono h HS8.out.size))
  have Fz0 := Lib.hid (fun W (h : SW w8 W) => z0 W (HT8.out W h))
  have Fz1 := Lib.hid (fun W (h : SW w8 W) => z1 W (HT8.out W h))
  have Fg0 := Lib.hid (fun W (h : SW w8 W) => g0 W (HT8.out W h))
  have Fg1 := Lib.hid (fun W (h : SW w8 W) => g1 W (HT8.out W h))
  have Fg2 := Lib.hid (fun W (h : SW w8 W) => g2 W (HT8.out W h))
  have Fg3 := Lib.hid (fun W (h : SW w8 W) => g3 W (HT8.out W h))
  have Fg4 := Lib.hid (fun W (h : SW w8 W) => g4 W (HT8.out W h))
  have Fg5 := Lib.hid (fun W (h : SW w8 W) => g5 W (HT8.out W h))
  have KOd : Hid (∀ W, SW w8 W → Calls Tryz.prog 26 #[.slice (some ⟨b, o, none⟩) fs.length c, .string f.car, .int .i64 f.num, .int .i64 day] W (OnX g s W)) := Lib.hid (fun W h => KO.out W (HT8.out W h))
  have y0 := Fg0.out
  have y1 := Fg1.out
  clear z0 z1 KO g0 g1 g2 g3 g4 g5
  go_upto_region 4 with fail
  go_cut [11, 12] from 50 (fun v11 v12 wx => ∃ (N : Nat) (A9 : Option Addr) (c9 : Nat), v11 = .pointer (some ⟨N, 0, none⟩) ∧ v12 = .bool s ∧ Hid (FliAt wx N g A9 c9 ∧ LegL wx (.slice A9 g.lg.length c9) g.lg ∧ SW w8 wx))
  case first =>
    have hS : (SW w8) _ := SW.drew _
    refine wp_region_held_drew (S := SW w8) (by kernel_rfl) hS (fun _ => ?_)
    refine wpAnyH_take (i := 0) (v := ?vO0) rfl (by kernel_rfl) (by kernel_rfl) (by kernel_rfl) (fun _ _ _ h => h) (Or.inl ⟨by rfl, ?hyO0⟩) hS ?restO0
    case hyO0 =>
      intro w hSw
      first | (go_simp; done) | (go_simp; with_reducible rfl)
    try simp only [Act.put, List.setIfInBounds_toArray, List.set_cons_zero, List.set_cons_succ]
    refine wpAnyH_take (i := 1) (v := ?vO1) rfl (by kernel_rfl) (by kernel_rfl) (by kernel_rfl) (fun _ _ _ h => h) (Or.inl ⟨by rfl, ?hyO1⟩) hS ?restO1
    case hyO1 =>
      intro w hSw
      first | (go_simp; done) | (go_simp; with_reducible rfl)
    try simp only [Act.put, List.setIfInBounds_toArray, List.set_cons_zero, List.set_cons_succ]
    refine wpAnyH_take (i := 2) (v := ?vO2) rfl (by kernel_rfl) (by kernel_rfl) (by kernel_rfl) (fun _ _ _ h => h) (Or.inl ⟨by rfl, ?hyO2⟩) hS ?restO2
    case hyO2 =>
      intro w hSw
      first | (go_simp; done) | (go_simp; with_reducible rfl)
    try simp only [Act.put, List.setIfInBounds_toArray, List.set_cons_zero, List.set_cons_succ]
    refine wpAnyH_take (i := 3) (v := ?vO3) rfl (by kernel_rfl) (by kernel_rfl) (by kernel_rfl) (fun _ _ _ h => h) (Or.inl ⟨by rfl, ?hyO3⟩) hS ?restO3
    case hyO3 =>
      intro w hSw
      have k0 := y0 w hSw; have k1 := y1 w hSw
      first | (go_simp; done) | (go_simp; with_reducible rfl)
    try simp only [Act.put, List.setIfInBounds_toArray, List.set_cons_zero, List.set_cons_succ]
    refine wpAnyH_take (i := 4) (v := ?vO4) rfl (by kernel_rfl) (by kernel_rfl) (by kernel_rfl) (fun _ _ _ h => h) (Or.inl ⟨by rfl, ?hyO4⟩) hS ?restO4
    case hyO4 =>
      intro w hSw
      first | (go_simp; done) | (go_simp; with_reducible rfl)
    try simp only [Act.put, List.setIfInBounds_toArray, List.set_cons_zero, List.set_cons_succ]
    refine wpAnyH_take (i := 5) (v := ?vO5) rfl (by kernel_rfl) (by kernel_rfl) (by kernel_rfl) (fun _ _ _ h => h) (Or.inl ⟨by rfl, ?hyO5⟩) hS ?restO5
    case hyO5 =>
      intro w hSw
      have k0 := y0 w hSw; have k1 := y1 w hSw
      first | (go_simp; done) | (go_simp; with_reducible rfl)
    try simp only [Act.put, List.setIfInBounds_toArray, List.set_cons_zero, List.set_cons_succ]
    refine wpAnyH_take (i := 6) (v := ?vO6) rfl (by kernel_rfl) (by kernel_rfl) (by kernel_rfl) (fun _ _ _ h => h) (Or.inl ⟨by rfl, ?hyO6⟩) hS ?restO6
    case hyO6 =>
      intro w hSw
      first | (go_simp; done) | (go_simp; with_reducible rfl)
    try simp only [Act.put, List.setIfInBounds_toArray, List.set_cons_zero, List.set_cons_succ]
    refine wpAnyH_take (i := 7) (v := ?vO7) rfl (by kernel_rfl) (by kernel_rfl) (by kernel_rfl) (fun _ _ _ h => h) (Or.inl ⟨by rfl, ?hyO7⟩) hS ?restO7
    case hyO7 =>
      intro w hSw
      first | (go_simp; done) | (go_simp; with_reducible rfl)
    try simp only [Act.put, List.setIfInBounds_toArray, List.set_cons_zero, List.set_cons_succ]
    refine wpAnyH_take (i := 8) (v := ?vO8) rfl (by kernel_rfl) (by kernel_rfl) (by kernel_rfl) (fun _ _ _ h => h) (Or.inl ⟨by rfl, ?hyO8⟩) hS ?restO8
    case hyO8 =>
      intro w hSw
      have k0 := y0 w hSw; have k1 := y1 w hSw
      first | (go_simp; done) | (go_simp; with_reducible rfl)
    try simp only [Act.put, List.setIfInBounds_toArray, List.set_cons_zero, List.set_cons_succ]
    refine wpAnyH_take (i := 9) (v := ?vO9) rfl (by kernel_rfl) (by kernel_rfl) (by kernel_rfl) (fun _ _ _ h => h) (Or.inl ⟨by rfl, ?hyO9⟩) hS ?restO9
    case hyO9 =>
      intro w hSw
      first | (go_simp; done) | (go_simp; with_reducible rfl)
    try simp only [Act.put, List.setIfInBounds_toArray, List.set_cons_zero, List.set_cons_succ]
    refine wpAnyH_take (i := 10) (v := ?vO10) rfl (by kernel_rfl) (by kernel_rfl) (by kernel_rfl) (fun _ _ _ h => h) (Or.inl ⟨by rfl, ?hyO10⟩) hS ?restO10
    case hyO10 =>
      intro w hSw
      have k0 := y0 w hSw; have k1 := y1 w hSw
      first | (go_simp; done) | (go_simp; with_reducible rfl)
    try simp only [Act.put, List.setIfInBounds_toArray, List.set_cons_zero, List.set_cons_succ]
    refine wpAnyH_take (i := 11) (v := ?vO11) rfl (by kernel_rfl) (by kernel_rfl) (by kernel_rfl) (fun _ _ _ h => h) (Or.inl ⟨by rfl, ?hyO11⟩) hS ?restO11
    case hyO11 =>
      intro w hSw
      first | (go_simp; done) | (go_simp; with_reducible rfl)
    try simp only [Act.put, List.setIfInBounds_toArray, List.set_cons_zero, List.set_cons_succ]
    refine wpAnyH_ready (rs := [12, 16]) (by kernel_rfl) (by simp) ?_
    refine AllReadyH.cons rfl (fun K hK => ?_) (AllReadyH.cons rfl (fun K hK => ?_) AllReadyH.nil)
    · go_simp
      go_wp2_with ((go_at_call 26; refine (KOd.out _ hS).mono ?_; rintro e w9 ⟨X1, A9, c9, rfl, hX1, hL1, hb9⟩; have hsz1 : X1.size = 6 := (by rw [hX1.out]; rfl); have hS9 : SW w8 w9 := Below.trans hS (Below.mono hb9 hS.size); have hS := hS9; have hst1 := store_fli hX1 w9))
      refine hK.out _ _ hS (fun _ => ?_)
      clear hK K
      refine wpAnyH_take (i := 13) (v := ?vOa13) rfl (by kernel_rfl) (by kernel_rfl) (by kernel_rfl) (fun _ _ _ h => h) (Or.inl ⟨by rfl, ?hyOa13⟩) hS ?restOa13
      case hyOa13 =>
        intro w hSw
        first | (go_simp; done) | (go_simp; with_reducible rfl)
      try simp only [Act.put, List.setIfInBounds_toArray, List.set_cons_zero, List.set_cons_succ]
      refine wpAnyH_take (i := 14) (v := ?vOa14) rfl (by kernel_rfl) (by kernel_rfl) (by kernel_rfl) (fun _ _ _ h => h) (Or.inl ⟨by rfl, ?hyOa14⟩) hS ?restOa14
      case hyOa14 =>
        intro w hSw
        first | (go_simp; done) | (go_simp; with_reducible rfl)
      try simp only [Act.put, List.setIfInBounds_toArray, List.set_cons_zero, List.set_cons_succ]
      refine wpAnyH_take (i := 15) (v := ?vOa15) rfl (by kernel_rfl) (by kernel_rfl) (by kernel_rfl) (fun _ _ _ h => h) (Or.inl ⟨by rfl, ?hyOa15⟩) hS ?restOa15
      case hyOa15 =>
        intro w hSw
        first | (go_simp; done) | (go_simp; with_reducible rfl)
      try simp only [Act.put, List.setIfInBounds_toArray, List.set_cons_zero, List.set_cons_succ]
      refine wpAnyH_ready (rs := [16]) (by kernel_rfl) (by simp) ?_
      refine AllReadyH.cons rfl (fun K hK => ?_) AllReadyH.nil
      go_simp
      have hSp := hS
      have hS := Below.trans hSp (Below.mono (bel_alloc _ (.cells #[.string noB, .int .i64 0, .int .i64 0, .int .i64 0, .int .i64 0, .slice none 0 0] fliT)) hSp.size)
      refine hK.out _ _ hS (fun _ => ?_)
      clear hK K
      refine wpAnyH_ready (rs := [17]) (by kernel_rfl) (by simp) ?_
      refine AllReadyH.cons rfl (fun K hK => ?_) AllReadyH.nil
      go_simp
      have hS : SW w8 (w9.alloc (.cells X1 fliT)) := Below.trans hS9 (Below.mono (bel_alloc w9 _) hS9.size)
      refine hK.out _ _ hS (fun _ => ?_)
      clear hK K
      refine wpAnyH_take (i := 18) (v := ?vOa18) rfl (by kernel_rfl) (by kernel_rfl) (by kernel_rfl) (fun _ _ _ h => h) (Or.inl ⟨by rfl, ?hyOa18⟩) hS ?restOa18
      case hyOa18 =>
        intro w hSw
        first | (go_simp; done) | (go_simp; with_reducible rfl)
      try simp only [Act.put, List.setIfInBounds_toArray, List.set_cons_zero, List.set_cons_succ]
      refine wpAnyH_done (by kernel_rfl) ?_ _
      simp only [List.getElem_toArray, List.getElem_cons_succ, List.getElem_cons_zero, List.set_cons_zero, List.set_cons_succ]
      try simp only [List.setIfInBounds_toArray, List.set_cons_zero, List.set_cons_succ]
      go_wp2_with fail
      go_meet
      exact ⟨_, A9, c9, rfl, rfl, Lib.hid ⟨fliAt_row (heap_alloc_new w9 (.cells X1 fliT)) hX1, hL1.more (bel_alloc w9 _), hS⟩⟩
    · go_simp
      have hSp := hS
      have hN0 := heap_alloc_new w8.drew (.cells #[.string noB, .int .i64 0, .int .i64 0, .int .i64 0, .int .i64 0, .slice none 0 0] fliT)
      have hS := Below.trans hSp (Below.mono (bel_alloc _ (.cells #[.string noB, .int .i64 0, .int .i64 0, .int .i64 0, .int .i64 0, .slice none 0 0] fliT)) hSp.size)
      refine hK.out _ _ hS (fun _ => ?_)
      clear hK K
      refine wpAnyH_ready (rs := [12]) (by kernel_rfl) (by simp) ?_
      refine AllReadyH.cons rfl (fun K hK => ?_) AllReadyH.nil
      go_simp
      go_wp2_with ((go_at_call 26; refine (KOd.out _ hS).mono ?_; rintro e w9 ⟨X1, A9, c9, rfl, hX1, hL1, hb9⟩; have hsz1 : X1.size = 6 := (by rw [hX1.out]; rfl); have hS9 : SW w8 w9 := Below.trans hS (Below.mono hb9 hS.size); have hS := hS9; obtain ⟨wS, hst0, hxS, hbS⟩ := store_blk (X := X1) ((hb9.block _ (lt_of_cell2 hN0)).trans hN0) hsz1 (by rw [hX1.out]; simp [Value.oneCell']); have hst1 : (storeCells ⟨w8.heap.size, 0, none⟩ X1.toList 0).run Tryz.prog w9 = .ok () wS := hst0))
      refine hK.out _ _ hS (fun _ => ?_)
      clear hK K
      refine wpAnyH_take (i := 13) (v := ?vOb13) rfl (by kernel_rfl) (by kernel_rfl) (by kernel_rfl) (fun _ _ _ h => h) (Or.inl ⟨by rfl, ?hyOb13⟩) hS ?restOb13
      case hyOb13 =>
        intro w hSw
        first | (go_simp; done) | (go_simp; with_reducible rfl)
      try simp only [Act.put, List.setIfInBounds_toArray, List.set_cons_zero, List.set_cons_succ]
      refine wpAnyH_take (i := 14) (v := ?vOb14) rfl (by kernel_rfl) (by kernel_rfl) (by kernel_rfl) (fun _ _ _ h => h) (Or.inl ⟨by rfl, ?hyOb14⟩) hS ?restOb14
      case hyOb14 =>
        intro w hSw
        first | (go_simp; done) | (go_simp; with_reducible rfl)
      try simp only [Act.put, List.setIfInBounds_toArray, List.set_cons_zero, List.set_cons_succ]
      refine wpAnyH_take (i := 15) (v := ?vOb15) rfl (by kernel_rfl) (by kernel_rfl) (by kernel_rfl) (fun _ _ _ h => h) (Or.inl ⟨by rfl, ?hyOb15⟩) hS ?restOb15
      case hyOb15 =>
        intro w hSw
        first | (go_simp; done) | (go_simp; with_reducible rfl)
      try simp only [Act.put, List.setIfInBounds_toArray, List.set_cons_zero, List.set_cons_succ]
      refine wpAnyH_ready (rs := [17]) (by kernel_rfl) (by simp) ?_
      refine AllReadyH.cons rfl (fun K hK => ?_) AllReadyH.nil
      go_simp
      have hS : SW w8 wS := Below.trans hS9 (hbS.below hS9.size (fun q hq he => by have : q = w8.heap.size := he; omega))
      refine hK.out _ _ hS (fun _ => ?_)
      clear hK K
      refine wpAnyH_take (i := 18) (v := ?vOb18) rfl (by kernel_rfl) (by kernel_rfl) (by kernel_rfl) (fun _ _ _ h => h) (Or.inl ⟨by rfl, ?hyOb18⟩) hS ?restOb18
      case hyOb18 =>
        intro w hSw
        first | (go_simp; done) | (go_simp; with_reducible rfl)
      try simp only [Act.put, List.setIfInBounds_toArray, List.set_cons_zero, List.set_cons_succ]
      refine wpAnyH_done (by kernel_rfl) ?_ _
      simp only [List.getElem_toArray, List.getElem_cons_succ, List.getElem_cons_zero, List.set_cons_zero, List.set_cons_succ]
      try simp only [List.setIfInBounds_toArray, List.set_cons_zero, List.set_cons_succ]
      go_wp2_with fail
      go_meet
      exact ⟨_, A9, c9, rfl, rfl, Lib.hid ⟨fliAt_row hxS hX1, legl_but hL1 ((hb9.block _ (lt_of_cell2 hN0)).trans hN0) hbS, hS⟩⟩
  case rest =>
  obtain ⟨N, A9, c9, rfl, rfl, HC⟩ := hcut
  generalize wc = w9 at *
  clear KOd y0 y1
  have HT9 : Hid (∀ W, SW w9 W → SW w8 W) := Lib.hid (fun W h => Below.trans HC.out.2.2 (Below.mono h HC.out.2.2.size))
  go_upto_region 5 with fail
  go_cut [80] from 66 (fun v wx => v = .bool false ∧ Hid (SW w9 wx))
  case first =>
    by_cases he : e0 = 0
    case pos =>
      obtain ⟨hg1, hs1⟩ := HX.out he
      subst hg1
      subst hs1
      clear HX
      subst he
      have KSd : Hid (∀ W, SW w9 W → Calls Tryz.prog 20 #[.agg #[.string g.car, .int .i64 g.num, .int .i64 g.pf, .int .i64 g.pt, .int .i64 g.pd, .slice A9 g.lg.length c9], .agg #[.string g.car, .int .i64 g.num, .int .i64 g.pf, .int .i64 g.pt, .int .i64 g.pd, .slice g.A g.lg.length g.c]] W fun e w' => e = .returned (.bool true) ∧ SW w9 w') := Lib.hid (fun W h => (KS.out A9 c9 W (HC.out.2.1.more h) (HT8.out _ (HT9.out _ h))).mono (by rintro e w' ⟨rfl, hb⟩; exact ⟨rfl, Below.trans h (Below.mono hb h.size)⟩))
      have n0 := SW.cell HC.out.1.c0
      have m0 := SW.cell (Fg0.out _ HC.out.2.2)
      have n1 := SW.cell HC.out.1.c1
      have m1 := SW.cell (Fg1.out _ HC.out.2.2)
      have n2 := SW.cell HC.out.1.c2
      have m2 := SW.cell (Fg2.out _ HC.out.2.2)
      have n3 := SW.cell HC.out.1.c3
      have m3 := SW.cell (Fg3.out _ HC.out.2.2)
      have n4 := SW.cell HC.out.1.c4
      have m4 := SW.cell (Fg4.out _ HC.out.2.2)
      have n5 := SW.cell HC.out.1.c5
      have m5 := SW.cell (Fg5.out _ HC.out.2.2)
      clear KS KP
      have hNe : Nonempty (Wd (SW w9)) := ⟨⟨_, SW.drew _⟩⟩
      refine quietS (S := SW w9) (by kernel_rfl) (by kernel_rfl) (SW.drew _) ?_
      repeat (first | go_big_quiet_skip | (go_big_quiet_want; go_big_quiet_op; first | go_big_quiet_on | go_big_quiet_call ((go_at_call 20; exact quiet_S (KSd.out _ (Wd.ok _))))))
      refine wpQuiet_nil ?_
      rintro W ⟨⟨_, hW⟩, rfl⟩
      go_wp2_with fail
      go_meet
      exact ⟨rfl, Lib.hid hW⟩
    case neg =>
      have hb : (e0 == 0) = false := by simpa using he
      clear he
      have hNe : Nonempty (Wd (SW w9)) := ⟨⟨_, SW.drew _⟩⟩
      refine quietS (S := SW w9) (by kernel_rfl) (by kernel_rfl) (SW.drew _) ?_
      repeat (first | go_big_quiet_skip | (go_big_quiet_want; go_big_quiet_op; first | go_big_quiet_on | go_big_quiet_call ((fail))))
      refine wpQuiet_nil ?_
      rintro W ⟨⟨_, hW⟩, rfl⟩
      go_wp2_with fail
      go_meet
      exact ⟨rfl, Lib.hid hW⟩
  case rest =>
  obtain ⟨rfl, HC2⟩ := hcut
  generalize wc = w10 at *
  clear HX KS
  have HS10 : Hid (SW w8 w10) := Lib.hid (HT9.out _ HC2.out)
  clear HC HC2 HT9 Fg0 Fg1 Fg2 Fg3 Fg4 Fg5
  go_wp2
  go_loopw [13] (fun vi wi => ∃ i : Nat, i ≤ S.length ∧ vi = .int .i64 i ∧ SW w10 wi) (fun vi _ => S.length - (intOf vi).toNat)
  case atStart => exact ⟨0, Nat.zero_le _, rfl, Below.refl _ _⟩
  case round =>
    obtain ⟨i, hi, rfl, hSi⟩ := hrel
    have HS8r : Hid (SW w8 wr) := Lib.hid (Below.trans HS10.out (Below.mono hSi HS10.out.size))
    have HSi := Lib.hid hSi
    clear hSi
    by_cases hli : i < S.length
    case neg =>
      have i5 : ¬ (i : Int) < (S.length : Int) := by omega
      go_wp2_with (go_at_call 25; refine (KW2.out _ (HT8.out _ HS8r.out)).mono ?_; rintro e w19 ⟨rfl, hS⟩)
      go_ret
      exact ⟨rfl, HB0.out.trans (Below.mono hS HB0.out.size)⟩
    case pos =>
      obtain ⟨x, hx⟩ : ∃ x, S[i]? = some x := ⟨_, List.getElem?_eq_getElem hli⟩
      have i5 : (i : Int) < (S.length : Int) := by omega
      have HMx := Lib.hid (HM.out x (List.mem_of_getElem? hx))
      obtain ⟨b7, o7, e7, hb7l, hc7⟩ := RowL.at7 (HR8.out.more HS8r.out) hx
      cases e7
      have c0 := hc7 0 _ rfl
      have c1 := hc7 1 _ rfl
      have c2 := hc7 2 _ rfl
      have c3 := hc7 3 _ rfl
      have c4 := hc7 4 _ rfl
      have c5 := hc7 5 _ rfl
      have c6 := hc7 6 _ rfl
      rw [Nat.add_zero] at c0
      clear hc7 hx
      go_upto_region 11 with fail
      clear c0 c1 c2 c3 c4 c5 c6
      have hN4 := heap_alloc_new wr (.cells #[.string x.car, .int .i64 x.num, .int .i64 x.day, .string x.f, .string x.t, .int .i64 x.dep, .int .i64 x.arr] segT)
      have HSb : Hid (SW wr (wr.alloc (.cells #[.string x.car, .int .i64 x.num, .int .i64 x.day, .string x.f, .string x.t, .int .i64 x.dep, .int .i64 x.arr] segT))) := Lib.hid (bel_alloc wr _)
      generalize hwb : wr.alloc (.cells #[.string x.car, .int .i64 x.num, .int .i64 x.day, .string x.f, .string x.t, .int .i64 x.dep, .int .i64 x.arr] segT) = wb at *
      clear hwb
      have H4 : Hid (SgAt wb wr.heap.size x) := Lib.hid hN4
      clear hN4
      have HSb8 : Hid (SW w8 wb) := Lib.hid (Below.trans HS8r.out (Below.mono HSb.out HS8r.out.size))
      have HSb10 : Hid (SW w10 wb) := Lib.hid (Below.trans HSi.out (Below.mono HSb.out HSi.out.size))
      have u0 := bel_get (H4.out.cell 0 _ rfl)
      have u1 := bel_get (H4.out.cell 1 _ rfl)
      have u2 := bel_get (H4.out.cell 2 _ rfl)
      have u3 := bel_get (H4.out.cell 3 _ rfl)
      have u4 := bel_get (H4.out.cell 4 _ rfl)
      have u5 := bel_get (H4.out.cell 5 _ rfl)
      have u6 := bel_get (H4.out.cell 6 _ rfl)
      go_cut [15, 16, 17] from 91 to 93 (fun v15 v16 v17 wx => ∃ N1 N2 N3 : Nat, v15 = .pointer (some ⟨N1, 0, none⟩) ∧ v16 = .pointer (some ⟨N2, 0, none⟩) ∧ v17 = .pointer (some ⟨N3, 0, none⟩) ∧ Hid (wb.heap.size ≤ N1 ∧ wb.heap.size ≤ N2 ∧ wb.heap.size ≤ N3 ∧ N1 ≠ N2 ∧ N1 ≠ N3 ∧ N2 ≠ N3 ∧ SgAt wx N1 x ∧ SgAt wx N2 x ∧ SgAt wx N3 x ∧ SW wb wx))
      case first =>
        have hS : (SW wb) _ := SW.drew _
        refine wp_region_held_drew (S := SW wb) (by kernel_rfl) hS (fun _ => ?_)
        refine wpAnyH_take (i := 0) (v := ?vT0) rfl (by kernel_rfl) (by kernel_rfl) (by kernel_rfl) (fun _ _ _ h => h) (Or.inl ⟨by rfl, ?hyT0⟩) hS ?restT0
        case hyT0 =>
          intro w hSw
          have k0 := u0 w hSw; have k1 := u1 w hSw; have k2 := u2 w hSw; have k3 := u3 w hSw; have k4 := u4 w hSw; have k5 := u5 w hSw; have k6 := u6 w hSw
          first | (go_simp; done) | (go_simp; with_reducible rfl)
        try simp only [Act.put, List.setIfInBounds_toArray, List.set_cons_zero, List.set_cons_succ]
        refine wpAnyH_take (i := 1) (v := ?vT1) rfl (by kernel_rfl) (by kernel_rfl) (by kernel_rfl) (fun _ _ _ h => h) (Or.inl ⟨by rfl, ?hyT1⟩) hS ?restT1
        case hyT1 =>
          intro w hSw
          have k0 := u0 w hSw; have k1 := u1 w hSw; have k2 := u2 w hSw; have k3 := u3 w hSw; have k4 := u4 w hSw; have k5 := u5 w hSw; have k6 := u6 w hSw
          first | (go_simp; done) | (go_simp; with_reducible rfl)
        try simp only [Act.put, List.setIfInBounds_toArray, List.set_cons_zero, List.set_cons_succ]
        refine wpAnyH_take (i := 2) (v := ?vT2) rfl (by kernel_rfl) (by kernel_rfl) (by kernel_rfl) (fun _ _ _ h => h) (Or.inl ⟨by rfl, ?hyT2⟩) hS ?restT2
        case hyT2 =>
          intro w hSw
          have k0 := u0 w hSw; have k1 := u1 w hSw; have k2 := u2 w hSw; have k3 := u3 w hSw; have k4 := u4 w hSw; have k5 := u5 w hSw; have k6 := u6 w hSw
          first | (go_simp; done) | (go_simp; with_reducible rfl)
        try simp only [Act.put, List.setIfInBounds_toArray, List.set_cons_zero, List.set_cons_succ]
        clear u0 u1 u2 u3 u4 u5 u6
        obtain ⟨X, hX⟩ : ∃ X : Array Value, X = #[.string x.car, .int .i64 x.num, .int .i64 x.day, .string x.f, .string x.t, .int .i64 x.dep, .int .i64 x.arr] := ⟨_, rfl⟩
        rw [← hX]
        have hsz : X.size = 7 := by rw [hX]; rfl
        have hone : Hid (∀ v ∈ X.toList, v.oneCell' = true) := Lib.hid (by rw [hX]; simp [Value.oneCell'])
        have HXX := Lib.hid hX
        clear hX
        refine wpAnyH_ready (rs := [3, 4, 5]) (by kernel_rfl) (by simp) ?_
        refine AllReadyH.cons rfl (fun K hK => ?_) (AllReadyH.cons rfl (fun K hK => ?_) (AllReadyH.cons rfl (fun K hK => ?_) AllReadyH.nil))
        · go_simp
          have hSp := hS
          have hS := Below.trans hSp (Below.mono (bel_alloc _ obZ) hSp.size)
          refine hK.out _ _ hS (fun _ => ?_)
          clear hK K hSp
          refine wpAnyH_ready (rs := [4, 5]) (by kernel_rfl) (by simp) ?_
          refine AllReadyH.cons rfl (fun K hK => ?_) (AllReadyH.cons rfl (fun K hK => ?_) AllReadyH.nil)
          · go_simp
            have hSp := hS
            have hS := Below.trans hSp (Below.mono (bel_alloc _ obZ) hSp.size)
            refine hK.out _ _ hS (fun _ => ?_)
            clear hK K hSp
            refine wpAnyH_ready (rs := [5]) (by kernel_rfl) (by simp) ?_
            refine AllReadyH.cons rfl (fun K hK => ?_) AllReadyH.nil
            · go_simp
              have hSp := hS
              have hS := Below.trans hSp (Below.mono (bel_alloc _ obZ) hSp.size)
              refine hK.out _ _ hS (fun _ => ?_)
              clear hK K hSp
              obtain ⟨h0, h1, h2⟩ := alloc_three wb obZ
              change (World.drew (al3 wb obZ)).heap[wb.heap.size]? = _ at h0
              change (World.drew (al3 wb obZ)).heap[wb.heap.size + 1]? = _ at h1
              change (World.drew (al3 wb obZ)).heap[wb.heap.size + 1 + 1]? = _ at h2
              have hS : SW wb (World.drew (al3 wb obZ)) := hS
              generalize World.drew (al3 wb obZ) = x0 at *
              refine wpAnyH_ready (rs := [6]) (by kernel_rfl) (by simp) (AllReadyH.cons rfl (fun K hK => ?_) AllReadyH.nil)
              obtain ⟨x1, hst, hxx, hB⟩ := store_blk (X := X) h0 hsz hone.out
              have q0 : SgAt x1 wb.heap.size x := by rw [HXX.out] at hxx; exact hxx
              have h1 := zer_but h1 hB (by omega)
              have h2 := zer_but h2 hB (by omega)
              have hS : SW wb x1 := Below.trans hS (hB.below hS.size (fun q hq he => by have : q = wb.heap.size := he; omega))
              go_simp
              refine hK.out _ _ hS (fun _ => ?_)
              clear hK K hB hst hxx h0
              refine wpAnyH_ready (rs := [7]) (by kernel_rfl) (by simp) (AllReadyH.cons rfl (fun K hK => ?_) AllReadyH.nil)
              obtain ⟨x2, hst, hxx, hB⟩ := store_blk (X := X) h1 hsz hone.out
              have q1 : SgAt x2 (wb.heap.size + 1) x := by rw [HXX.out] at hxx; exact hxx
              have q0 := q0.but hB (by omega)
              have h2 := zer_but h2 hB (by omega)
              have hS : SW wb x2 := Below.trans hS (hB.below hS.size (fun q hq he => by have : q = (wb.heap.size + 1) := he; omega))
              go_simp
              refine hK.out _ _ hS (fun _ => ?_)
              clear hK K hB hst hxx h1
              refine wpAnyH_ready (rs := [8]) (by kernel_rfl) (by simp) (AllReadyH.cons rfl (fun K hK => ?_) AllReadyH.nil)
              obtain ⟨x3, hst, hxx, hB⟩ := store_blk (X := X) h2 hsz hone.out
              have q2 : SgAt x3 (wb.heap.size + 1 + 1) x := by rw [HXX.out] at hxx; exact hxx
              have q0 := q0.but hB (by omega)
              have q1 := q1.but hB (by omega)
              have hS : SW wb x3 := Below.trans hS (hB.below hS.size (fun q hq he => by have : q = (wb.heap.size + 1 + 1) := he; omega))
              go_simp
              refine hK.out _ _ hS (fun _ => ?_)
              clear hK K hB hst hxx h2
              refine wpAnyH_done (by kernel_rfl) ?_ _
              try simp only [List.setIfInBounds_toArray, List.set_cons_zero, List.set_cons_succ]
              have hX := HXX.out
              subst hX
              go_wp2_with fail
              go_meet
              exact ⟨_, _, _, rfl, rfl, rfl, Lib.hid ⟨by omega, by omega, by omega, by omega, by omega, by omega, q0, q1, q2, hS⟩⟩
          · go_simp
            have hSp := hS
            have hS := Below.trans hSp (Below.mono (bel_alloc _ obZ) hSp.size)
            refine hK.out _ _ hS (fun _ => ?_)
            clear hK K hSp
            refine wpAnyH_ready (rs := [4]) (by kernel_rfl) (by simp) ?_
            refine AllReadyH.cons rfl (fun K hK => ?_) AllReadyH.nil
            · go_simp
              have hSp := hS
              have hS := Below.trans hSp (Below.mono (bel_alloc _ obZ) hSp.size)
              refine hK.out _ _ hS (fun _ => ?_)
              clear hK K hSp
              obtain ⟨h0, h1, h2⟩ := alloc_three wb obZ
              change (World.drew (al3 wb obZ)).heap[wb.heap.size]? = _ at h0
              change (World.drew (al3 wb obZ)).heap[wb.heap.size + 1]? = _ at h1
              change (World.drew (al3 wb obZ)).heap[wb.heap.size + 1 + 1]? = _ at h2
              have hS : SW wb (World.drew (al3 wb obZ)) := hS
              generalize World.drew (al3 wb obZ) = x0 at *
              refine wpAnyH_ready (rs := [6]) (by kernel_rfl) (by simp) (AllReadyH.cons rfl (fun K hK => ?_) AllReadyH.nil)
              obtain ⟨x1, hst, hxx, hB⟩ := store_blk (X := X) h0 hsz hone.out
              have q0 : SgAt x1 wb.heap.size x := by rw [HXX.out] at hxx; exact hxx
              have h1 := zer_but h1 hB (by omega)
              have h2 := zer_but h2 hB (by omega)
              have hS : SW wb x1 := Below.trans hS (hB.below hS.size (fun q hq he => by have : q = wb.heap.size := he; omega))
              go_simp
              refine hK.out _ _ hS (fun _ => ?_)
              clear hK K hB hst hxx h0
              refine wpAnyH_ready (rs := [7]) (by kernel_rfl) (by simp) (AllReadyH.cons rfl (fun K hK => ?_) AllReadyH.nil)
              obtain ⟨x2, hst, hxx, hB⟩ := store_blk (X := X) h2 hsz hone.out
              have q2 : SgAt x2 (wb.heap.size + 1 + 1) x := by rw [HXX.out] at hxx; exact hxx
              have q0 := q0.but hB (by omega)
              have h1 := zer_but h1 hB (by omega)
              have hS : SW wb x2 := Below.trans hS (hB.below hS.size (fun q hq he => by have : q = (wb.heap.size + 1 + 1) := he; omega))
              go_simp
              refine hK.out _ _ hS (fun _ => ?_)
              clear hK K hB hst hxx h2
              refine wpAnyH_ready (rs := [8]) (by kernel_rfl) (by simp) (AllReadyH.cons rfl (fun K hK => ?_) AllReadyH.nil)
              obtain ⟨x3, hst, hxx, hB⟩ := store_blk (X := X) h1 hsz hone.out
              have q1 : SgAt x3 (wb.heap.size + 1) x := by rw [HXX.out] at hxx; exact hxx
              have q0 := q0.but hB (by omega)
              have q2 := q2.but hB (by omega)
              have hS : SW wb x3 := Below.trans hS (hB.below hS.size (fun q hq he => by have : q = (wb.heap.size + 1) := he; omega))
              go_simp
              refine hK.out _ _ hS (fun _ => ?_)
              clear hK K hB hst hxx h1
              refine wpAnyH_done (by kernel_rfl) ?_ _
              try simp only [List.setIfInBounds_toArray, List.set_cons_zero, List.set_cons_succ]
              have hX := HXX.out
              subst hX
              go_wp2_with fail
              go_meet
              exact ⟨_, _, _, rfl, rfl, rfl, Lib.hid ⟨by omega, by omega, by omega, by omega, by omega, by omega, q0, q2, q1, hS⟩⟩
        · go_simp
          have hSp := hS
          have hS := Below.trans hSp (Below.mono (bel_alloc _ obZ) hSp.size)
          refine hK.out _ _ hS (fun _ => ?_)
          clear hK K hSp
          refine wpAnyH_ready (rs := [3, 5]) (by kernel_rfl) (by simp) ?_
          refine AllReadyH.cons rfl (fun K hK => ?_) (AllReadyH.cons rfl (fun K hK => ?_) AllReadyH.nil)
          · go_simp
            have hSp := hS
            have hS := Below.trans hSp (Below.mono (bel_alloc _ obZ) hSp.size)
            refine hK.out _ _ hS (fun _ => ?_)
            clear hK K hSp
            refine wpAnyH_ready (rs := [5]) (by kernel_rfl) (by simp) ?_
            refine AllReadyH.cons rfl (fun K hK => ?_) AllReadyH.nil
            · go_simp
              have hSp := hS
              have hS := Below.trans hSp (Below.mono (bel_alloc _ obZ) hSp.size)
              refine hK.out _ _ hS (fun _ => ?_)
              clear hK K hSp
              obtain ⟨h0, h1, h2⟩ := alloc_three wb obZ
              change (World.drew (al3 wb obZ)).heap[wb.heap.size]? = _ at h0
              change (World.drew (al3 wb obZ)).heap[wb.heap.size + 1]? = _ at h1
              change (World.drew (al3 wb obZ)).heap[wb.heap.size + 1 + 1]? = _ at h2
              have hS : SW wb (World.drew (al3 wb obZ)) := hS
              generalize World.drew (al3 wb obZ) = x0 at *
              refine wpAnyH_ready (rs := [6]) (by kernel_rfl) (by simp) (AllReadyH.cons rfl (fun K hK => ?_) AllReadyH.nil)
              obtain ⟨x1, hst, hxx, hB⟩ := store_blk (X := X) h1 hsz hone.out
              have q1 : SgAt x1 (wb.heap.size + 1) x := by rw [HXX.out] at hxx; exact hxx
              have h0 := zer_but h0 hB (by omega)
              have h2 := zer_but h2 hB (by omega)
              have hS : SW wb x1 := Below.trans hS (hB.below hS.size (fun q hq he => by have : q = (wb.heap.size + 1) := he; omega))
              go_simp
              refine hK.out _ _ hS (fun _ => ?_)
              clear hK K hB hst hxx h1
              refine wpAnyH_ready (rs := [7]) (by kernel_rfl) (by simp) (AllReadyH.cons rfl (fun K hK => ?_) AllReadyH.nil)
              obtain ⟨x2, hst, hxx, hB⟩ := store_blk (X := X) h0 hsz hone.out
              have q0 : SgAt x2 wb.heap.size x := by rw [HXX.out] at hxx; exact hxx
              have q1 := q1.but hB (by omega)
              have h2 := zer_but h2 hB (by omega)
              have hS : SW wb x2 := Below.trans hS (hB.below hS.size (fun q hq he => by have : q = wb.heap.size := he; omega))
              go_simp
              refine hK.out _ _ hS (fun _ => ?_)
              clear hK K hB hst hxx h0
              refine wpAnyH_ready (rs := [8]) (by kernel_rfl) (by simp) (AllReadyH.cons rfl (fun K hK => ?_) AllReadyH.nil)
              obtain ⟨x3, hst, hxx, hB⟩ := store_blk (X := X) h2 hsz hone.out
              have q2 : SgAt x3 (wb.heap.size + 1 + 1) x := by rw [HXX.out] at hxx; exact hxx
              have q0 := q0.but hB (by omega)
              have q1 := q1.but hB (by omega)
              have hS : SW wb x3 := Below.trans hS (hB.below hS.size (fun q hq he => by have : q = (wb.heap.size + 1 + 1) := he; omega))
              go_simp
              refine hK.out _ _ hS (fun _ => ?_)
              clear hK K hB hst hxx h2
              refine wpAnyH_done (by kernel_rfl) ?_ _
              try simp only [List.setIfInBounds_toArray, List.set_cons_zero, List.set_cons_succ]
              have hX := HXX.out
              subst hX
              go_wp2_with fail
              go_meet
              exact ⟨_, _, _, rfl, rfl, rfl, Lib.hid ⟨by omega, by omega, by omega, by omega, by omega, by omega, q1, q0, q2, hS⟩⟩
          · go_simp
            have hSp := hS
            have hS := Below.trans hSp (Below.mono (bel_alloc _ obZ) hSp.size)
            refine hK.out _ _ hS (fun _ => ?_)
            clear hK K hSp
            refine wpAnyH_ready (rs := [3]) (by kernel_rfl) (by simp) ?_
            refine AllReadyH.cons rfl (fun K hK => ?_) AllReadyH.nil
            · go_simp
              have hSp := hS
              have hS := Below.trans hSp (Below.mono (bel_alloc _ obZ) hSp.size)
              refine hK.out _ _ hS (fun _ => ?_)
              clear hK K hSp
              obtain ⟨h0, h1, h2⟩ := alloc_three wb obZ
              change (World.drew (al3 wb obZ)).heap[wb.heap.size]? = _ at h0
              change (World.drew (al3 wb obZ)).heap[wb.heap.size + 1]? = _ at h1
              change (World.drew (al3 wb obZ)).heap[wb.heap.size + 1 + 1]? = _ at h2
              have hS : SW wb (World.drew (al3 wb obZ)) := hS
              generalize World.drew (al3 wb obZ) = x0 at *
              refine wpAnyH_ready (rs := [6]) (by kernel_rfl) (by simp) (AllReadyH.cons rfl (fun K hK => ?_) AllReadyH.nil)
              obtain ⟨x1, hst, hxx, hB⟩ := store_blk (X := X) h2 hsz hone.out
              have q2 : SgAt x1 (wb.heap.size + 1 + 1) x := by rw [HXX.out] at hxx; exact hxx
              have h0 := zer_but h0 hB (by omega)
              have h1 := zer_but h1 hB (by omega)
              have hS : SW wb x1 := Below.trans hS (hB.below hS.size (fun q hq he => by have : q = (wb.heap.size + 1 + 1) := he; omega))
              go_simp
              refine hK.out _ _ hS (fun _ => ?_)
              clear hK K hB hst hxx h2
              refine wpAnyH_ready (rs := [7]) (by kernel_rfl) (by simp) (AllReadyH.cons rfl (fun K hK => ?_) AllReadyH.nil)
              obtain ⟨x2, hst, hxx, hB⟩ := store_blk (X := X) h0 hsz hone.out
              have q0 : SgAt x2 wb.heap.size x := by rw [HXX.out] at hxx; exact hxx
              have h1 := zer_but h1 hB (by omega)
              have q2 := q2.but hB (by omega)
              have hS : SW wb x2 := Below.trans hS (hB.below hS.size (fun q hq he => by have : q = wb.heap.size := he; omega))
              go_simp
              refine hK.out _ _ hS (fun _ => ?_)
              clear hK K hB hst hxx h0
              refine wpAnyH_ready (rs := [8]) (by kernel_rfl) (by simp) (AllReadyH.cons rfl (fun K hK => ?_) AllReadyH.nil)
              obtain ⟨x3, hst, hxx, hB⟩ := store_blk (X := X) h1 hsz hone.out
              have q1 : SgAt x3 (wb.heap.size + 1) x := by rw [HXX.out] at hxx; exact hxx
              have q0 := q0.but hB (by omega)
              have q2 := q2.but hB (by omega)
              have hS : SW wb x3 := Below.trans hS (hB.below hS.size (fun q hq he => by have : q = (wb.heap.size + 1) := he; omega))
              go_simp
              refine hK.out _ _ hS (fun _ => ?_)
              clear hK K hB hst hxx h1
              refine wpAnyH_done (by kernel_rfl) ?_ _
              try simp only [List.setIfInBounds_toArray, List.set_cons_zero, List.set_cons_succ]
              have hX := HXX.out
              subst hX
              go_wp2_with fail
              go_meet
              exact ⟨_, _, _, rfl, rfl, rfl, Lib.hid ⟨by omega, by omega, by omega, by omega, by omega, by omega, q2, q0, q1, hS⟩⟩
        · go_simp
          have hSp := hS
          have hS := Below.trans hSp (Below.mono (bel_alloc _ obZ) hSp.size)
          refine hK.out _ _ hS (fun _ => ?_)
          clear hK K hSp
          refine wpAnyH_ready (rs := [3, 4]) (by kernel_rfl) (by simp) ?_
          refine AllReadyH.cons rfl (fun K hK => ?_) (AllReadyH.cons rfl (fun K hK => ?_) AllReadyH.nil)
          · go_simp
            have hSp := hS
            have hS := Below.trans hSp (Below.mono (bel_alloc _ obZ) hSp.size)
            refine hK.out _ _ hS (fun _ => ?_)
            clear hK K hSp
            refine wpAnyH_ready (rs := [4]) (by kernel_rfl) (by simp) ?_
            refine AllReadyH.cons rfl (fun K hK => ?_) AllReadyH.nil
            · go_simp
              have hSp := hS
              have hS := Below.trans hSp (Below.mono (bel_alloc _ obZ) hSp.size)
              refine hK.out _ _ hS (fun _ => ?_)
              clear hK K hSp
              obtain ⟨h0, h1, h2⟩ := alloc_three wb obZ
              change (World.drew (al3 wb obZ)).heap[wb.heap.size]? = _ at h0
              change (World.drew (al3 wb obZ)).heap[wb.heap.size + 1]? = _ at h1
              change (World.drew (al3 wb obZ)).heap[wb.heap.size + 1 + 1]? = _ at h2
              have hS : SW wb (World.drew (al3 wb obZ)) := hS
              generalize World.drew (al3 wb obZ) = x0 at *
              refine wpAnyH_ready (rs := [6]) (by kernel_rfl) (by simp) (AllReadyH.cons rfl (fun K hK => ?_) AllReadyH.nil)
              obtain ⟨x1, hst, hxx, hB⟩ := store_blk (X := X) h1 hsz hone.out
              have q1 : SgAt x1 (wb.heap.size + 1) x := by rw [HXX.out] at hxx; exact hxx
              have h0 := zer_but h0 hB (by omega)
              have h2 := zer_but h2 hB (by omega)
              have hS : SW wb x1 := Below.trans hS (hB.below hS.size (fun q hq he => by have : q = (wb.heap.size + 1) := he; omega))
              go_simp
              refine hK.out _ _ hS (fun _ => ?_)
              clear hK K hB hst hxx h1
              refine wpAnyH_ready (rs := [7]) (by kernel_rfl) (by simp) (AllReadyH.cons rfl (fun K hK => ?_) AllReadyH.nil)
              obtain ⟨x2, hst, hxx, hB⟩ := store_blk (X := X) h2 hsz hone.out
              have q2 : SgAt x2 (wb.heap.size + 1 + 1) x := by rw [HXX.out] at hxx; exact hxx
              have h0 := zer_but h0 hB (by omega)
              have q1 := q1.but hB (by omega)
              have hS : SW wb x2 := Below.trans hS (hB.below hS.size (fun q hq he => by have : q = (wb.heap.size + 1 + 1) := he; omega))
              go_simp
              refine hK.out _ _ hS (fun _ => ?_)
              clear hK K hB hst hxx h2
              refine wpAnyH_ready (rs := [8]) (by kernel_rfl) (by simp) (AllReadyH.cons rfl (fun K hK => ?_) AllReadyH.nil)
              obtain ⟨x3, hst, hxx, hB⟩ := store_blk (X := X) h0 hsz hone.out
              have q0 : SgAt x3 wb.heap.size x := by rw [HXX.out] at hxx; exact hxx
              have q1 := q1.but hB (by omega)
              have q2 := q2.but hB (by omega)
              have hS : SW wb x3 := Below.trans hS (hB.below hS.size (fun q hq he => by have : q = wb.heap.size := he; omega))
              go_simp
              refine hK.out _ _ hS (fun _ => ?_)
              clear hK K hB hst hxx h0
              refine wpAnyH_done (by kernel_rfl) ?_ _
              try simp only [List.setIfInBounds_toArray, List.set_cons_zero, List.set_cons_succ]
              have hX := HXX.out
              subst hX
              go_wp2_with fail
              go_meet
              exact ⟨_, _, _, rfl, rfl, rfl, Lib.hid ⟨by omega, by omega, by omega, by omega, by omega, by omega, q1, q2, q0, hS⟩⟩
          · go_simp
            have hSp := hS
            have hS := Below.trans hSp (Below.mono (bel_alloc _ obZ) hSp.size)
            refine hK.out _ _ hS (fun _ => ?_)
            clear hK K hSp
            refine wpAnyH_ready (rs := [3]) (by kernel_rfl) (by simp) ?_
            refine AllReadyH.cons rfl (fun K hK => ?_) AllReadyH.nil
            · go_simp
              have hSp := hS
              have hS := Below.trans hSp (Below.mono (bel_alloc _ obZ) hSp.size)
              refine hK.out _ _ hS (fun _ => ?_)
              clear hK K hSp
              obtain ⟨h0, h1, h2⟩ := alloc_three wb obZ
              change (World.drew (al3 wb obZ)).heap[wb.heap.size]? = _ at h0
              change (World.drew (al3 wb obZ)).heap[wb.heap.size + 1]? = _ at h1
              change (World.drew (al3 wb obZ)).heap[wb.heap.size + 1 + 1]? = _ at h2
              have hS : SW wb (World.drew (al3 wb obZ)) := hS
              generalize World.drew (al3 wb obZ) = x0 at *
              refine wpAnyH_ready (rs := [6]) (by kernel_rfl) (by simp) (AllReadyH.cons rfl (fun K hK => ?_) AllReadyH.nil)
              obtain ⟨x1, hst, hxx, hB⟩ := store_blk (X := X) h2 hsz hone.out
              have q2 : SgAt x1 (wb.heap.size + 1 + 1) x := by rw [HXX.out] at hxx; exact hxx
              have h0 := zer_but h0 hB (by omega)
              have h1 := zer_but h1 hB (by omega)
              have hS : SW wb x1 := Below.trans hS (hB.below hS.size (fun q hq he => by have : q = (wb.heap.size + 1 + 1) := he; omega))
              go_simp
              refine hK.out _ _ hS (fun _ => ?_)
              clear hK K hB hst hxx h2
              refine wpAnyH_ready (rs := [7]) (by kernel_rfl) (by simp) (AllReadyH.cons rfl (fun K hK => ?_) AllReadyH.nil)
              obtain ⟨x2, hst, hxx, hB⟩ := store_blk (X := X) h1 hsz hone.out
              have q1 : SgAt x2 (wb.heap.size + 1) x := by rw [HXX.out] at hxx; exact hxx
              have h0 := zer_but h0 hB (by omega)
              have q2 := q2.but hB (by omega)
              have hS : SW wb x2 := Below.trans hS (hB.below hS.size (fun q hq he => by have : q = (wb.heap.size + 1) := he; omega))
              go_simp
              refine hK.out _ _ hS (fun _ => ?_)
              clear hK K hB hst hxx h1
              refine wpAnyH_ready (rs := [8]) (by kernel_rfl) (by simp) (AllReadyH.cons rfl (fun K hK => ?_) AllReadyH.nil)
              obtain ⟨x3, hst, hxx, hB⟩ := store_blk (X := X) h0 hsz hone.out
              have q0 : SgAt x3 wb.heap.size x := by rw [HXX.out] at hxx; exact hxx
              have q1 := q1.but hB (by omega)
              have q2 := q2.but hB (by omega)
              have hS : SW wb x3 := Below.trans hS (hB.below hS.size (fun q hq he => by have : q = wb.heap.size := he; omega))
              go_simp
              refine hK.out _ _ hS (fun _ => ?_)
              clear hK K hB hst hxx h0
              refine wpAnyH_done (by kernel_rfl) ?_ _
              try simp only [List.setIfInBounds_toArray, List.set_cons_zero, List.set_cons_succ]
              have hX := HXX.out
              subst hX
              go_wp2_with fail
              go_meet
              exact ⟨_, _, _, rfl, rfl, rfl, Lib.hid ⟨by omega, by omega, by omega, by omega, by omega, by omega, q2, q1, q0, hS⟩⟩
      case rest =>
        obtain ⟨N1, N2, N3, rfl, rfl, rfl, HC⟩ := hcut
        generalize wc = wd at *
        obtain ⟨r1, r2, r3, n12, n13, n23, a1, a2, a3, aS⟩ := HC.out
        clear HC u0 u1 u2 u3 u4 u5 u6
        have HSd := Lib.hid aS
        have A1 := Lib.hid a1
        have A2 := Lib.hid a2
        have A3 := Lib.hid a3
        have HNE := Lib.hid (And.intro r1 (And.intro r2 (And.intro r3 (And.intro n12 (And.intro n13 n23)))))
        clear r1 r2 r3 n12 n13 n23 a1 a2 a3 aS
        have k5 := A1.out.cell 5 _ rfl
        have z5 := A1.out.fz 5
        go_upto_region 13 with fail
        clear k5 z5
        have E1 := Lib.hid (A1.out.dep (wrap64 (x.dep - 1)))
        have hB := But.setCell wd N1 5 (.int .i64 (wrap64 (x.dep - 1)))
        have E2 := Lib.hid (A2.out.but hB (fun e => HNE.out.2.2.2.1 e.symm))
        have E3 := Lib.hid (A3.out.but hB (fun e => HNE.out.2.2.2.2.1 e.symm))
        have HSe : Hid (SW wb (wd.setCell ⟨N1, 5, none⟩ (.int .i64 (wrap64 (x.dep - 1))))) := Lib.hid (Below.trans HSd.out (hB.below HSd.out.size (fun q hq he => by have := HNE.out.1; have h2 : q = N1 := he; omega)))
        clear A1 A2 A3 HSd hB
        generalize wd.setCell ⟨N1, 5, none⟩ (.int .i64 (wrap64 (x.dep - 1))) = we at *
        generalize wrap64 (x.dep - 1) = dv at *
        have k6 := E2.out.cell 6 _ rfl
        have z6 := E2.out.fz 6
        go_upto_region 14 with fail
        clear k6 z6
        have D2 := Lib.hid (E2.out.arr (wrap64 (x.arr + 1)))
        have hB := But.setCell we N2 6 (.int .i64 (wrap64 (x.arr + 1)))
        have D1 := Lib.hid (E1.out.but hB HNE.out.2.2.2.1)
        have D3 := Lib.hid (E3.out.but hB (fun e => HNE.out.2.2.2.2.2 e.symm))
        have HSf : Hid (SW wb (we.setCell ⟨N2, 6, none⟩ (.int .i64 (wrap64 (x.arr + 1))))) := Lib.hid (Below.trans HSe.out (hB.below HSe.out.size (fun q hq he => by have := HNE.out.2.1; have h2 : q = N2 := he; omega)))
        clear E1 E2 E3 HSe hB
        generalize we.setCell ⟨N2, 6, none⟩ (.int .i64 (wrap64 (x.arr + 1))) = wf at *
        generalize wrap64 (x.arr + 1) = av at *
        have k2 := D3.out.cell 2 _ rfl
        have z2 := D3.out.fz 2
        go_upto_region 15 with fail
        clear k2 z2
        have G3 := Lib.hid (D3.out.day (-1))
        have hB := But.setCell wf N3 2 (.int .i64 (-1))
        have G1 := Lib.hid (D1.out.but hB HNE.out.2.2.2.2.1)
        have G2 := Lib.hid (D2.out.but hB HNE.out.2.2.2.2.2)
        have HSg : Hid (SW wb (wf.setCell ⟨N3, 2, none⟩ (.int .i64 (-1)))) := Lib.hid (Below.trans HSf.out (hB.below HSf.out.size (fun q hq he => by have := HNE.out.2.2.1; have h2 : q = N3 := he; omega)))
        clear D1 D2 D3 HSf hB
        generalize wf.setCell ⟨N3, 2, none⟩ (.int .i64 (-1)) = wg at *
        have HSg8 : Hid (SW w8 wg) := Lib.hid (Below.trans HSb8.out (Below.mono HSg.out HSb8.out.size))
        have HSg10 : Hid (SW w10 wg) := Lib.hid (Below.trans HSb10.out (Below.mono HSg.out HSb10.out.size))
        have KQ0 : Hid (∀ W, SW wg W → Calls Tryz.prog 33 #[encP p, .slice (some ⟨b, o, none⟩) fs.length c, .agg #[.string x.car, .int .i64 x.num, .int .i64 x.day, .string x.f, .string x.t, .int .i64 x.dep, .int .i64 x.arr]] W fun e w' => e = .returned (.bool true) ∧ SW wg w') := Lib.hid (fun W h => (KP.out ⟨x.car, x.num, x.day, x.f, x.t, x.dep, x.arr⟩ true W (by have := HMx.out.1; have h2 := HBD.out; show _ ≤ x.day; omega) (by have := HMx.out.1; have h2 := HBD.out; show x.day ≤ _; omega) HMx.out.2.1 (HT8.out _ (Below.trans HSg8.out (Below.mono h HSg8.out.size)))).mono (by rintro e w' ⟨rfl, hb⟩; exact ⟨rfl, Below.trans h (Below.mono hb h.size)⟩))
        have KQ1 : Hid (∀ W, SW wg W → Calls Tryz.prog 33 #[encP p, .slice (some ⟨b, o, none⟩) fs.length c, .agg #[.string x.car, .int .i64 x.num, .int .i64 x.day, .string x.f, .string x.t, .int .i64 dv, .int .i64 x.arr]] W fun e w' => e = .returned (.bool false) ∧ SW wg w') := Lib.hid (fun W h => (KP.out ⟨x.car, x.num, x.day, x.f, x.t, dv, x.arr⟩ false W (by have := HMx.out.1; have h2 := HBD.out; show _ ≤ x.day; omega) (by have := HMx.out.1; have h2 := HBD.out; show x.day ≤ _; omega) HMx.out.2.2.1 (HT8.out _ (Below.trans HSg8.out (Below.mono h HSg8.out.size)))).mono (by rintro e w' ⟨rfl, hb⟩; exact ⟨rfl, Below.trans h (Below.mono hb h.size)⟩))
        have KQ2 : Hid (∀ W, SW wg W → Calls Tryz.prog 33 #[encP p, .slice (some ⟨b, o, none⟩) fs.length c, .agg #[.string x.car, .int .i64 x.num, .int .i64 x.day, .string x.f, .string x.t, .int .i64 x.dep, .int .i64 av]] W fun e w' => e = .returned (.bool false) ∧ SW wg w') := Lib.hid (fun W h => (KP.out ⟨x.car, x.num, x.day, x.f, x.t, x.dep, av⟩ false W (by have := HMx.out.1; have h2 := HBD.out; show _ ≤ x.day; omega) (by have := HMx.out.1; have h2 := HBD.out; show x.day ≤ _; omega) HMx.out.2.2.2.1 (HT8.out _ (Below.trans HSg8.out (Below.mono h HSg8.out.size)))).mono (by rintro e w' ⟨rfl, hb⟩; exact ⟨rfl, Below.trans h (Below.mono hb h.size)⟩))
        have KQ3 : Hid (∀ W, SW wg W → Calls Tryz.prog 33 #[encP p, .slice (some ⟨b, o, none⟩) fs.length c, .agg #[.string x.car, .int .i64 x.num, .int .i64 (-1), .string x.f, .string x.t, .int .i64 x.dep, .int .i64 x.arr]] W fun e w' => e = .returned (.bool false) ∧ SW wg w') := Lib.hid (fun W h => (KP.out ⟨x.car, x.num, (-1), x.f, x.t, x.dep, x.arr⟩ false W (by show _ ≤ (-1 : Int); omega) (by show (-1 : Int) ≤ _; omega) HMx.out.2.2.2.2 (HT8.out _ (Below.trans HSg8.out (Below.mono h HSg8.out.size)))).mono (by rintro e w' ⟨rfl, hb⟩; exact ⟨rfl, Below.trans h (Below.mono hb h.size)⟩))
        have Y0 := Lib.hid (bel_get (Fz0.out _ HSg8.out))
        have Y1 := Lib.hid (bel_get (Fz1.out _ HSg8.out))
        have B0 := Lib.hid (bel_get (G1.out.cell 0 _ rfl))
        have C0 := Lib.hid (bel_get (G2.out.cell 0 _ rfl))
        have D0 := Lib.hid (bel_get (G3.out.cell 0 _ rfl))
        have s0 := bel_cell HSg.out (H4.out.cell 0 _ rfl)
        have B1 := Lib.hid (bel_get (G1.out.cell 1 _ rfl))
        have C1 := Lib.hid (bel_get (G2.out.cell 1 _ rfl))
        have D1 := Lib.hid (bel_get (G3.out.cell 1 _ rfl))
        have s1 := bel_cell HSg.out (H4.out.cell 1 _ rfl)
        have B2 := Lib.hid (bel_get (G1.out.cell 2 _ rfl))
        have C2 := Lib.hid (bel_get (G2.out.cell 2 _ rfl))
        have D2 := Lib.hid (bel_get (G3.out.cell 2 _ rfl))
        have s2 := bel_cell HSg.out (H4.out.cell 2 _ rfl)
        have B3 := Lib.hid (bel_get (G1.out.cell 3 _ rfl))
        have C3 := Lib.hid (bel_get (G2.out.cell 3 _ rfl))
        have D3 := Lib.hid (bel_get (G3.out.cell 3 _ rfl))
        have s3 := bel_cell HSg.out (H4.out.cell 3 _ rfl)
        have B4 := Lib.hid (bel_get (G1.out.cell 4 _ rfl))
        have C4 := Lib.hid (bel_get (G2.out.cell 4 _ rfl))
        have D4 := Lib.hid (bel_get (G3.out.cell 4 _ rfl))
        have s4 := bel_cell HSg.out (H4.out.cell 4 _ rfl)
        have B5 := Lib.hid (bel_get (G1.out.cell 5 _ rfl))
        have C5 := Lib.hid (bel_get (G2.out.cell 5 _ rfl))
        have D5 := Lib.hid (bel_get (G3.out.cell 5 _ rfl))
        have s5 := bel_cell HSg.out (H4.out.cell 5 _ rfl)
        have B6 := Lib.hid (bel_get (G1.out.cell 6 _ rfl))
        have C6 := Lib.hid (bel_get (G2.out.cell 6 _ rfl))
        have D6 := Lib.hid (bel_get (G3.out.cell 6 _ rfl))
        have s6 := bel_cell HSg.out (H4.out.cell 6 _ rfl)
        have hS : SW wg wg := Below.refl _ _
        have z0 := Y0.out _ hS
        have z1 := Y1.out _ hS
        go_wp2_with (first | (go_at_call 33; with_reducible refine (KQ0.out _ hS).mono ?_; rintro e wh0 ⟨rfl, hS⟩; have z0 := Y0.out _ hS; have z1 := Y1.out _ hS; have s0 := B0.out _ hS; have s1 := B1.out _ hS; have s2 := B2.out _ hS; have s3 := B3.out _ hS; have s4 := B4.out _ hS; have s5 := B5.out _ hS; have s6 := B6.out _ hS) | (go_at_call 33; with_reducible refine (KQ1.out _ hS).mono ?_; rintro e wh1 ⟨rfl, hS⟩; have z0 := Y0.out _ hS; have z1 := Y1.out _ hS; have s0 := C0.out _ hS; have s1 := C1.out _ hS; have s2 := C2.out _ hS; have s3 := C3.out _ hS; have s4 := C4.out _ hS; have s5 := C5.out _ hS; have s6 := C6.out _ hS) | (go_at_call 33; with_reducible refine (KQ2.out _ hS).mono ?_; rintro e wh2 ⟨rfl, hS⟩; have z0 := Y0.out _ hS; have z1 := Y1.out _ hS; have s0 := D0.out _ hS; have s1 := D1.out _ hS; have s2 := D2.out _ hS; have s3 := D3.out _ hS; have s4 := D4.out _ hS; have s5 := D5.out _ hS; have s6 := D6.out _ hS) | (go_at_call 33; with_reducible refine (KQ3.out _ hS).mono ?_; rintro e wh3 ⟨rfl, hS⟩))
        have hS12 : SW w10 _ := Below.trans HSg10.out (Below.mono hS HSg10.out.size)
        go_roundw
        case rel => exact ⟨i + 1, by omega, by go_num, hS12⟩
        case measure => simp [intOf]; omega
theorem scheduleSegs_c1 : Tryz.pinned.checked.prog.inPlace 6 = Rows.scheduleSegsUptoRow.inPlace := by kernel_rfl
theorem scheduleSegs_c2 : Tryz.pinned.checked.prog.unfollowed 6 = Rows.scheduleSegsUptoRow.unfollowed := by kernel_rfl
theorem scheduleSegs_c3 : Tryz.pinned.checked.prog.recurses 6 = Rows.scheduleSegsUptoRow.recurses := by kernel_rfl
theorem scheduleSegs_c4 : Tryz.pinned.checked.prog.varsNamed 6 = Rows.scheduleSegsUptoRow.named := by kernel_rfl
end Go.Proofs.YtldillnjnjkkgaaGreatDoor
