/- Words and walks that the laws below ask: Shr3, ShrB, ShrE, ShrF, ShrJ. -/
import Derived.Shelf.Abstract
import Derived.Test.YtdpcjafkahhecaaGreatDoorPk7
import Derived.Test.YtdpcjafkahhecaaGreatDoorPk8
import Derived.Test.YtdpcjafkahhecaaGreatDoorPk9
import Derived.Test.YtdpcjafkahhecaaGreatDoorPk10
import Derived.Test.YtdpcjafkahhecaaGreatDoorPk11
import Derived.Test.YtdpcjafkahhecaaGreatDoorPk13
/- The law's Right. -/
namespace Go.Proofs.YtdpcjafkahhecaaGreatDoor
open Go.RowKit Go.Shelf
set_option linter.unusedSimpArgs false
set_option linter.unusedVariables false

theorem cnt_no {n : Nat} (h : 90 < n) : cntB n = false := by
  unfold cntB
  rw [Bool.and_eq_false_iff, decide_eq_false_iff_not, decide_eq_false_iff_not]
  omega
theorem chF_big {l : List Air} {f : FV} (h : 90 < f.lg.length) : chF l f = hdR f := by
  unfold chF hdR
  rw [cnt_no h, if_neg (by simp)]
  rfl
set_option maxRecDepth 100000 in
set_option maxHeartbeats 8000000 in
/-- the reference's Check of a flight of many legs -/
theorem rfcheck_big (p : PV) (f : FV) (w : World) (hn : 90 < f.lg.length) (hc0 : f.car.size ≤ maxLen) :
    Calls Tryz.prog 58 #[encP p, encFl f] w fun e w' => ∃ v, e = .returned v ∧ FOwn w.heap.size w' v (chF p.l f) ∧ Below w.heap.size w w' := by
  have KH := Lib.hid (fun W => rhead_any f W hc0)
  rw [chF_big hn]
  obtain ⟨HR, hHR⟩ : ∃ H, H = hdR f := ⟨_, rfl⟩
  rw [← hHR] at KH ⊢
  clear hHR
  obtain ⟨car, num, pf, pt, pd, A, c, lg⟩ := f
  dsimp only at *
  have hb1 := bel_alloc w (.cells #[.slice p.A p.l.length p.ca, .slice p.D p.ds.length p.cd] placesT)
  have hb2 := bel_alloc (w.alloc (.cells #[.slice p.A p.l.length p.ca, .slice p.D p.ds.length p.cd] placesT)) (.cells #[.string car, .int .i64 num, .int .i64 pf, .int .i64 pt, .int .i64 pd, .slice A lg.length c] fliT)
  have hb0 := hb1.trans (hb2.mono hb1.size)
  have q0 := (cells_new (w.alloc (.cells #[.slice p.A p.l.length p.ca, .slice p.D p.ds.length p.cd] placesT)) #[.string car, .int .i64 num, .int .i64 pf, .int .i64 pt, .int .i64 pd, .slice A lg.length c] fliT 0).trans (show _ = some (Value.string car) from rfl)
  have q1 := (cells_new (w.alloc (.cells #[.slice p.A p.l.length p.ca, .slice p.D p.ds.length p.cd] placesT)) #[.string car, .int .i64 num, .int .i64 pf, .int .i64 pt, .int .i64 pd, .slice A lg.length c] fliT 1).trans (show _ = some (Value.int .i64 num) from rfl)
  have q2 := (cells_new (w.alloc (.cells #[.slice p.A p.l.length p.ca, .slice p.D p.ds.length p.cd] placesT)) #[.string car, .int .i64 num, .int .i64 pf, .int .i64 pt, .int .i64 pd, .slice A lg.length c] fliT 2).trans (show _ = some (Value.int .i64 pf) from rfl)
  have q3 := (cells_new (w.alloc (.cells #[.slice p.A p.l.length p.ca, .slice p.D p.ds.length p.cd] placesT)) #[.string car, .int .i64 num, .int .i64 pf, .int .i64 pt, .int .i64 pd, .slice A lg.length c] fliT 3).trans (show _ = some (Value.int .i64 pt) from rfl)
  have q4 := (cells_new (w.alloc (.cells #[.slice p.A p.l.length p.ca, .slice p.D p.ds.length p.cd] placesT)) #[.string car, .int .i64 num, .int .i64 pf, .int .i64 pt, .int .i64 pd, .slice A lg.length c] fliT 4).trans (show _ = some (Value.int .i64 pd) from rfl)
  have q5 := (cells_new (w.alloc (.cells #[.slice p.A p.l.length p.ca, .slice p.D p.ds.length p.cd] placesT)) #[.string car, .int .i64 num, .int .i64 pf, .int .i64 pt, .int .i64 pd, .slice A lg.length c] fliT 5).trans (show _ = some (Value.slice A lg.length c) from rfl)
  rw [World.size_alloc] at q0 q1 q2 q3 q4 q5
  clear hc0
  go_enter Tryz.func58, Tryz.ntmps58
  go_upto_region 1 with (fail)
  generalize hw5 : (w.alloc (.cells #[.slice p.A p.l.length p.ca, .slice p.D p.ds.length p.cd] placesT)).alloc (.cells #[.string car, .int .i64 num, .int .i64 pf, .int .i64 pt, .int .i64 pd, .slice A lg.length c] fliT) = w5 at *
  clear hw5 hb1 hb2
  have F5 := Lib.hid (bel_get q5)
  go_upto_region 2 with (go_at_call 89; refine (KH.out _).mono ?_; rintro e w1 ⟨v1, rfl, hO1, hS1⟩)
  have hS1 : SW w5 w1 := hS1
  have k5 := F5.out _ hS1
  clear q0 q1 q2 q3 q4 q5
  have h1 : ¬ (lg.length : Int) < 1 := by omega
  have i7 : (6 : Int) < (lg.length : Int) := by omega
  go_wp2
  go_ret
  exact ⟨v1, rfl, ⟨hO1.own.mono hb0.size, Nat.le_trans hb0.size hO1.base⟩, hb0.trans (Below.mono hS1 hb0.size)⟩

/-- places, flights and shares as they are given -/
structure Inp9 (p : PV) (fs : List FV) (sh : List Sh) : Prop where
  oA : ∀ a ∈ p.l, OkA a
  oD : ∀ d ∈ p.ds, OkD d
  la : p.l.length < 9223372036854775808
  ld : p.ds.length < 9223372036854775808
  ls : ∀ a ∈ p.l, a.shs.length < 9223372036854775808
  ok : ∀ f ∈ fs, OkFl f
  len : fs.length < 9223372036854775808
  lsh : sh.length < 9223372036854775808
/-- places and a timetable that are right and small -/
structure Val9 (p : PV) (fs : List FV) (sh : List Sh) : Prop where
  la : p.l.length ≤ 40
  lf : fs.length ≤ 12
  ls : sh.length ≤ 12
  hc : chkP p = []
  sch : schF p.l fs fs.length = []
theorem Val9.mem {p : PV} {fs : List FV} {sh : List Sh} (h : Val9 p fs sh) {f : FV} (hf : f ∈ fs) : chF p.l f = [] := by
  obtain ⟨k, hk⟩ := List.getElem?_of_mem hf
  have h1 := h.sch
  unfold schF at h1
  rw [List.flatMap_eq_nil_iff] at h1
  have hlt := (List.getElem?_eq_some_iff.1 hk).1
  have h2 := h1 k (List.mem_range.2 hlt)
  rw [hk] at h2
  obtain ⟨h3, _⟩ := List.append_eq_nil_iff.1 h2
  unfold preF at h3
  exact List.map_eq_nil_iff.1 h3
theorem Val9.legs {p : PV} {fs : List FV} {sh : List Sh} (h : Val9 p fs sh) {f : FV} (hf : f ∈ fs) : 1 ≤ f.lg.length ∧ f.lg.length ≤ 6 := by
  have h1 := (chF_nil (h.mem hf)).1
  unfold cntB at h1
  simp only [Bool.and_eq_true, decide_eq_true_eq] at h1
  exact h1
theorem Val9.okPl {p : PV} {fs : List FV} {sh : List Sh} (h : Val9 p fs sh) : OkPl p := ⟨h.la, chk_few h.hc, chk_okZ h.hc⟩
theorem Val9.okT {p : PV} {fs : List FV} {sh : List Sh} (h : Val9 p fs sh) : OkT fs where
  len := by have := h.lf; omega
  lg f hf := by have := h.legs hf; omega
  hm f hf x hx := lgs_times (chF_nil (h.mem hf)).2.2.1 hx
theorem chF_le9 (l : List Air) (f : FV) : (chF l f).length ≤ 1000 ∧ ∀ x ∈ chF l f, x.2.size ≤ 1000 := by
  by_cases hn : f.lg.length ≤ 90
  · have h1 := hdF_le f
    have h2 := lgsF_le l f.lg f.lg.length
    have h3 := pick_le lgsW [4]
    have h4 : ∀ D, (badD l f.lg D).length ≤ 1 := by
      intro D
      induction D with
      | nil => simp [badD]
      | cons d r ih => unfold badD; split; exact ih; simp
    have h5 : (timF l f).length ≤ 1 := h4 _
    refine ⟨?_, fun x hx => (chF_mem hn hx).1⟩
    unfold chF
    split
    · split
      · omega
      · rw [List.length_append]; omega
    · rw [List.length_append]; simp only [List.length_cons, List.length_nil] at h3; omega
  · rw [chF_big (by omega)]
    have h1 := hdF_le f
    have h3 := pick_le lgsW [if (!cntB f.lg.length) = true then 4 else 0]
    unfold hdR
    refine ⟨by rw [List.length_append]; simp only [List.length_cons, List.length_nil] at h3; omega, fun x hx => ?_⟩
    rcases List.mem_append.1 hx with hx | hx
    · unfold hdF at hx
      rcases List.mem_append.1 hx with hx | hx
      · rw [(pick_mem hx).1]; decide
      rcases List.mem_append.1 hx with hx | hx
      · rw [(pick_mem hx).1]; decide
      · rw [(pick_mem hx).1]; decide
    · rw [(pick_mem hx).1]; decide
set_option maxRecDepth 100000 in
set_option maxHeartbeats 8000000 in
theorem right9_any (p : PV) (v : Value) (fs : List FV) (A : Option Addr) (c : Nat) (sh : List Sh) (w : World) (hi : Inp9 p fs sh) (hP : PlL w p) (hv : TblL w v fs) :
    Calls Tryz.prog 8 #[encP p, v, .slice A sh.length c] w fun e w' => ∃ b : Bool, e = .returned (.bool b) ∧ (b = true → Val9 p fs sh) ∧ Below w.heap.size w w' := by
  obtain ⟨A0, c0, rfl, _⟩ := id hv.row
  have hb0 := bel_alloc w (.cells #[.slice p.A p.l.length p.ca, .slice p.D p.ds.length p.cd] placesT)
  have p0 := (cells_new w #[.slice p.A p.l.length p.ca, .slice p.D p.ds.length p.cd] placesT 0).trans (show _ = some (Value.slice p.A p.l.length p.ca) from rfl)
  have p1 := (cells_new w #[.slice p.A p.l.length p.ca, .slice p.D p.ds.length p.cd] placesT 1).trans (show _ = some (Value.slice p.D p.ds.length p.cd) from rfl)
  have HP := Lib.hid (hP.more hb0)
  have HV := Lib.hid (hv.more hb0)
  have HI := Lib.hid hi
  have hfl := hi.len
  have hsl := hi.lsh
  clear hP hv hi
  go_enter Tryz.func8, Tryz.ntmps8
  go_upto_region 1 with fail
  generalize hw5 : w.alloc (.cells #[.slice p.A p.l.length p.ca, .slice p.D p.ds.length p.cd] placesT) = w5 at *
  clear hw5
  have y0 := bel_get p0
  have y1 := bel_get p1
  clear p0 p1
  have KS : Hid (∀ W, SW w5 W → Calls Tryz.prog 24 #[encP p] W fun e w' => e = .returned (.bool (smallB p)) ∧ SW w5 w') := Lib.hid (SW.call (fun W h => small_any p W (HP.out.more h).air HI.out.la HI.out.ld HI.out.ls))
  have hS : SW w5 w5 := Below.refl _ _
  have z0 := y0 _ hS
  have z1 := y1 _ hS
  cases hsm : smallB p with
  | false =>
    rw [hsm] at KS
    go_wp2_with (go_at_call 24; with_reducible refine (KS.out _ hS).mono ?_; rintro e w1 ⟨rfl, hS1⟩)
    go_ret
    exact ⟨false, rfl, (fun h => by cases h), hb0.trans (Below.mono hS1 hb0.size)⟩
  | true =>
  rw [hsm] at KS
  have hsmall : p.l.length ≤ 40 ∧ p.ds.length ≤ 60 := by
    unfold smallB at hsm
    simp only [Bool.and_eq_true, decide_eq_true_eq] at hsm
    exact hsm.1
  clear hsm
  by_cases hf12 : (12 : Int) < fs.length
  · go_wp2_with (go_at_call 24; with_reducible refine (KS.out _ hS).mono ?_; rintro e w1 ⟨rfl, hS1⟩)
    go_ret
    exact ⟨false, rfl, (fun h => by cases h), hb0.trans (Below.mono hS1 hb0.size)⟩
  by_cases hs12 : (12 : Int) < sh.length
  · go_wp2_with (go_at_call 24; with_reducible refine (KS.out _ hS).mono ?_; rintro e w1 ⟨rfl, hS1⟩)
    go_ret
    exact ⟨false, rfl, (fun h => by cases h), hb0.trans (Below.mono hS1 hb0.size)⟩
  have KC : Hid (∀ W, SW w5 W → Calls Tryz.prog 25 #[encP p] W fun e w' => ∃ A c, e = .returned (.slice A (chkP p).length c) ∧ SW w5 w') := Lib.hid (fun W h => (rcheck6_anyB p W ⟨HI.out.oA, HI.out.oD, by omega, by omega⟩ (HP.out.more h)).mono (by rintro e w' ⟨v, rfl, hO, hb⟩; obtain ⟨A, c, rfl, _⟩ := hO.rowL rtF.len; exact ⟨A, c, rfl, Below.trans h (Below.mono hb h.size)⟩))
  by_cases hc0 : chkP p = []
  rotate_left
  · have hcl : (0 : Int) < ((chkP p).length : Int) := by
      have : (chkP p).length ≠ 0 := fun h => hc0 (List.eq_nil_of_length_eq_zero h)
      omega
    clear hc0
    generalize (chkP p).length = n0 at *
    go_wp2_with (first
      | (go_at_call 24; with_reducible refine (KS.out _ hS).mono ?_; rintro e w1 ⟨rfl, hS1⟩; have z0 := y0 _ hS1; have z1 := y1 _ hS1)
      | (go_at_call 25; with_reducible refine (KC.out _ hS1).mono ?_; rintro e w2 ⟨A2, c2, rfl, hS2⟩))
    go_ret
    exact ⟨false, rfl, (fun h => by cases h), hb0.trans (Below.mono hS2 hb0.size)⟩
  have HC0 := Lib.hid hc0
  rw [hc0] at KC
  simp only [List.length_nil] at KC
  have KT : Hid (∀ W, SW w5 W → Calls Tryz.prog 26 #[encP p, .slice A0 fs.length c0] W fun e w' => ∃ A c, e = .returned (.slice A (schF p.l fs fs.length).length c) ∧ SW w5 w') := Lib.hid (fun W h => by
    have hW := HV.out.more h
    have hA := (HP.out.more h).air
    refine (rscheck_any p _ fs W hA hW (by omega) (fun f hf => ⟨(HI.out.ok f hf).pf, (HI.out.ok f hf).pt, (HI.out.ok f hf).pd⟩) (fun f hf => chF_le9 _ _) (fun f hf W' h' => ?_)).mono (by rintro e w' ⟨r, rfl, hO, hb⟩; obtain ⟨A, c, rfl, _⟩ := hO.rowL rtF.len; exact ⟨A, c, rfl, Below.trans h (Below.mono hb (Below.size h))⟩)
    have of := HI.out.ok f hf
    by_cases hn : f.lg.length ≤ 90
    · exact rfcheck_any p f W' hsmall.1 (hA.more h') (chk_okZ HC0.out) ((hW.legs f hf).more h') (by omega) of.car of.lg of.pf
    · exact rfcheck_big p f W' (by omega) of.car)
  have HSM := Lib.hid hsmall
  clear hc0 hsmall
  by_cases hz : schF p.l fs fs.length = []
  · have HZ := Lib.hid hz
    have HL12 : Hid (fs.length ≤ 12 ∧ sh.length ≤ 12) := Lib.hid ⟨by omega, by omega⟩
    rw [hz] at KT
    simp only [List.length_nil] at KT
    clear hz
    go_wp2_with (first
      | (go_at_call 24; with_reducible refine (KS.out _ hS).mono ?_; rintro e w1 ⟨rfl, hS1⟩; have z0 := y0 _ hS1; have z1 := y1 _ hS1)
      | (go_at_call 25; with_reducible refine (KC.out _ hS1).mono ?_; rintro e w2 ⟨A2, c2, rfl, hS2⟩; have z0 := y0 _ hS2; have z1 := y1 _ hS2)
      | (go_at_call 26; with_reducible refine (KT.out _ hS2).mono ?_; rintro e w3 ⟨A3, c3, rfl, hS3⟩))
    go_ret
    exact ⟨true, rfl, fun _ => ⟨HSM.out.1, HL12.out.1, HL12.out.2, HC0.out, HZ.out⟩, hb0.trans (Below.mono hS3 hb0.size)⟩
  · have hzl : (((schF p.l fs fs.length).length : Int) == 0) = false := by
      rw [beq_eq_false_iff_ne]
      intro h
      exact hz (List.eq_nil_of_length_eq_zero (by omega))
    clear hz
    generalize (schF p.l fs fs.length).length = n0 at *
    go_wp2_with (first
      | (go_at_call 24; with_reducible refine (KS.out _ hS).mono ?_; rintro e w1 ⟨rfl, hS1⟩; have z0 := y0 _ hS1; have z1 := y1 _ hS1)
      | (go_at_call 25; with_reducible refine (KC.out _ hS1).mono ?_; rintro e w2 ⟨A2, c2, rfl, hS2⟩; have z0 := y0 _ hS2; have z1 := y1 _ hS2)
      | (go_at_call 26; with_reducible refine (KT.out _ hS2).mono ?_; rintro e w3 ⟨A3, c3, rfl, hS3⟩))
    go_ret
    exact ⟨false, rfl, (fun h => by cases h), hb0.trans (Below.mono hS3 hb0.size)⟩
end Go.Proofs.YtdpcjafkahhecaaGreatDoor

/- The segment that is operated for one that is sold: the program's and the reference's. -/
namespace Go.Proofs.YtdpcjafkahhecaaGreatDoor
open Go.RowKit Go.Shelf
set_option linter.unusedSimpArgs false
set_option linter.unusedVariables false

def operF (L : List Sh) (q : Sg) : Sg := match L.find? (fun s => shareB s q.car q.num q.day q.f q.t) with
  | some s => ⟨s.op, s.am, q.day, q.f, q.t, q.dep, q.arr⟩
  | none => q
theorem operF_none {L : List Sh} {q : Sg} (h : L.find? (fun s => shareB s q.car q.num q.day q.f q.t) = none) : operF L q = q := by unfold operF; rw [h]
theorem operF_some {L : List Sh} {q : Sg} {s : Sh} (h : L.find? (fun s => shareB s q.car q.num q.day q.f q.t) = some s) : operF L q = ⟨s.op, s.am, q.day, q.f, q.t, q.dep, q.arr⟩ := by unfold operF; rw [h]
theorem row7 {W : World} {r : Nat} {q : Sg} (h : W.heap[r]? = some (.cells #[.string q.car, .int .i64 q.num, .int .i64 q.day, .string q.f, .string q.t, .int .i64 q.dep, .int .i64 q.arr] segT (0, 0))) : ∀ j u, (encSg q)[j]? = some u → W.cell? ⟨r, j, none⟩ = some u := fun j u hu => (cell_of_row W r j _ _ (0, 0) h).trans (by rw [← hu]; exact List.getElem?_toArray)
theorem two_new (w : World) (X Z : Array Value) (t : TypeId) : ((w.alloc (.cells X t)).alloc (.cells Z t)).heap[w.heap.size]? = some (.cells X t (0, 0)) ∧ ((w.alloc (.cells X t)).alloc (.cells Z t)).heap[w.heap.size + 1]? = some (.cells Z t (0, 0)) ∧ Below w.heap.size w ((w.alloc (.cells X t)).alloc (.cells Z t)) := by
  have hb0 := bel_alloc w (.cells X t)
  have hb1 := bel_alloc (w.alloc (.cells X t)) (.cells Z t)
  have hN := heap_alloc_new w (.cells X t)
  have hM := heap_alloc_new (w.alloc (.cells X t)) (.cells Z t)
  have hs : (w.alloc (.cells X t)).heap.size = w.heap.size + 1 := by show (w.heap.push _).size = _; exact Array.size_push _
  have hlt : w.heap.size < (w.alloc (.cells X t)).heap.size := by omega
  rw [hs] at hM
  exact ⟨(Below.block hb1 _ hlt).trans hN, hM, hb0.trans (hb1.mono hb0.size)⟩
set_option maxRecDepth 100000 in
set_option maxHeartbeats 8000000 in
theorem operating_any (A : Option Addr) (c : Nat) (L : List Sh) (q : Sg) (w : World) (hl : L.length ≤ 100000) (hv : RowL 9 encSh9 w (.slice A L.length c) L) (hd : -9223372036854775808 ≤ q.day ∧ q.day ≤ 9223372036854775807) :
    Calls Tryz.prog 15 #[.slice A L.length c, encS7 q] w fun e w' => e = .returned (encS7 (operF L q)) ∧ Below w.heap.size w w' := by
  obtain ⟨hN, hM, hb0⟩ := two_new w #[.string q.car, .int .i64 q.num, .int .i64 q.day, .string q.f, .string q.t, .int .i64 q.dep, .int .i64 q.arr] #[.string noB, .int .i64 0, .int .i64 0, .string noB, .string noB, .int .i64 0, .int .i64 0] segT
  go_enter Tryz.func15, Tryz.ntmps15
  go_upto_region 1 with fail
  generalize hw5 : ((w.alloc (.cells #[.string q.car, .int .i64 q.num, .int .i64 q.day, .string q.f, .string q.t, .int .i64 q.dep, .int .i64 q.arr] segT)).alloc (.cells #[.string noB, .int .i64 0, .int .i64 0, .string noB, .string noB, .int .i64 0, .int .i64 0] segT)) = w5 at *
  clear hw5
  have HV := Lib.hid (hv.more hb0)
  have HB0 := Lib.hid hb0
  have HN := Lib.hid hN
  have HM := Lib.hid hM
  have HLN : Hid (w.heap.size < w5.heap.size) := Lib.hid (lt_of_cell2 hN)
  have HLM : Hid (w.heap.size + 1 < w5.heap.size) := Lib.hid (lt_of_cell2 hM)
  have KI := Lib.hid (indexH_any 45 #[.pointer (some ⟨w.heap.size, 0, none⟩)] A c L (fun s => shareB s q.car q.num q.day q.f q.t) w5 eg_oper1 hl HV.out (fun a W ha hb => oper1_any a q w.heap.size W hd (fun j u hu => bel_cell hb (row7 HN.out j u hu))))
  clear hN hM hb0 hv
  go_wp2_with (go_at_call 44; refine KI.out.mono ?_; rintro e w1 ⟨r, rfl, hr, hb1⟩; refine Hid.out ?_)
  have hS : SW w5 w1 := hb1
  rcases hr.out.find with ⟨rfl, hfd⟩ | ⟨k, y, rfl, hk, hfd⟩
  · refine Lib.hid ?_
    have HFD := Lib.hid hfd
    have hx := (Below.block hS _ HLN.out).trans HN.out
    have hm := (Below.block hS _ HLM.out).trans HM.out
    have hwb := HB0.out.trans (Below.mono hS HB0.out.size)
    clear hfd hr hS hb1
    have c0 := (cell_of_row _ _ 0 _ _ (0, 0) hx).trans (show _ = some _ from rfl)
    have c1 := (cell_of_row _ _ 1 _ _ (0, 0) hx).trans (show _ = some _ from rfl)
    have c2 := (cell_of_row _ _ 2 _ _ (0, 0) hx).trans (show _ = some _ from rfl)
    have c3 := (cell_of_row _ _ 3 _ _ (0, 0) hx).trans (show _ = some _ from rfl)
    have c4 := (cell_of_row _ _ 4 _ _ (0, 0) hx).trans (show _ = some _ from rfl)
    have c5 := (cell_of_row _ _ 5 _ _ (0, 0) hx).trans (show _ = some _ from rfl)
    have c6 := (cell_of_row _ _ 6 _ _ (0, 0) hx).trans (show _ = some _ from rfl)
    have n0 := (cell_of_row _ _ 0 _ _ (0, 0) hm).trans (show _ = some _ from rfl)
    have n1 := (cell_of_row _ _ 1 _ _ (0, 0) hm).trans (show _ = some _ from rfl)
    have n2 := (cell_of_row _ _ 2 _ _ (0, 0) hm).trans (show _ = some _ from rfl)
    have n3 := (cell_of_row _ _ 3 _ _ (0, 0) hm).trans (show _ = some _ from rfl)
    have n4 := (cell_of_row _ _ 4 _ _ (0, 0) hm).trans (show _ = some _ from rfl)
    have n5 := (cell_of_row _ _ 5 _ _ (0, 0) hm).trans (show _ = some _ from rfl)
    have n6 := (cell_of_row _ _ 6 _ _ (0, 0) hm).trans (show _ = some _ from rfl)
    have z0 := frozen_of_row _ _ 0 _ _ hm
    have z1 := frozen_of_row _ _ 1 _ _ hm
    have z2 := frozen_of_row _ _ 2 _ _ hm
    have z3 := frozen_of_row _ _ 3 _ _ hm
    have z4 := frozen_of_row _ _ 4 _ _ hm
    have z5 := frozen_of_row _ _ 5 _ _ hm
    have z6 := frozen_of_row _ _ 6 _ _ hm
    have HX2 : Hid (∀ U, U = S7 w1 (w.heap.size + 1) (.string q.car) (.int .i64 q.num) (.int .i64 q.day) (.string q.f) (.string q.t) (.int .i64 q.dep) (.int .i64 q.arr) → U.heap[w.heap.size + 1]? = some (.cells #[.string q.car, .int .i64 q.num, .int .i64 q.day, .string q.f, .string q.t, .int .i64 q.dep, .int .i64 q.arr] segT (0, 0)) ∧ Below w.heap.size w U) := Lib.hid (fun U h => by rw [h]; exact ⟨S7.heap hm _ _ _ _ _ _ _, hwb.trans ((S7.but _ _ _ _ _ _ _ _ _).below hwb.size (fun k hk => by omega))⟩)
    clear hx hm hwb
    go_wp2
    obtain ⟨hxx, hbb⟩ := HX2.out _ rfl
    unfold S7 at hxx hbb
    clear HX2
    generalize hWW : (((((((w1.setCell ⟨w.heap.size + 1, 0, none⟩ (.string q.car)).setCell ⟨w.heap.size + 1, 1, none⟩ (.int .i64 q.num)).setCell ⟨w.heap.size + 1, 2, none⟩ (.int .i64 q.day)).setCell ⟨w.heap.size + 1, 3, none⟩ (.string q.f)).setCell ⟨w.heap.size + 1, 4, none⟩ (.string q.t)).setCell ⟨w.heap.size + 1, 5, none⟩ (.int .i64 q.dep)).setCell ⟨w.heap.size + 1, 6, none⟩ (.int .i64 q.arr)) = WW at *
    clear hWW c0 n0 z0 c1 n1 z1 c2 n2 z2 c3 n3 z3 c4 n4 z4 c5 n5 z5 c6 n6 z6
    have e0 := (cell_of_row WW _ 0 _ _ (0, 0) hxx).trans (show _ = some _ from rfl)
    have e1 := (cell_of_row WW _ 1 _ _ (0, 0) hxx).trans (show _ = some _ from rfl)
    have e2 := (cell_of_row WW _ 2 _ _ (0, 0) hxx).trans (show _ = some _ from rfl)
    have e3 := (cell_of_row WW _ 3 _ _ (0, 0) hxx).trans (show _ = some _ from rfl)
    have e4 := (cell_of_row WW _ 4 _ _ (0, 0) hxx).trans (show _ = some _ from rfl)
    have e5 := (cell_of_row WW _ 5 _ _ (0, 0) hxx).trans (show _ = some _ from rfl)
    have e6 := (cell_of_row WW _ 6 _ _ (0, 0) hxx).trans (show _ = some _ from rfl)
    rw [operF_none HFD.out]
    refine bodyPost_ret (v := .agg #[.string q.car, .int .i64 q.num, .int .i64 q.day, .string q.f, .string q.t, .int .i64 q.dep, .int .i64 q.arr]) ?_ rfl ⟨rfl, hbb⟩
    simp [results, Tryz.results15, go_sem, e0, e1, e2, e3, e4, e5, e6]
  · refine Lib.hid ?_
    have HFD := Lib.hid hfd
    have hi2 : (k : Int) < (L.length : Int) := by have := (List.getElem?_eq_some_iff.1 hk).1; omega
    obtain ⟨b, o, e1, hbl, hcc⟩ := RowL.at9 (HV.out.more hS) hk
    cases e1
    have d5 := hcc 5 _ rfl
    have d6 := hcc 6 _ rfl
    have hx := (Below.block hS _ HLN.out).trans HN.out
    have hm := (Below.block hS _ HLM.out).trans HM.out
    have hwb := HB0.out.trans (Below.mono hS HB0.out.size)
    obtain ⟨W7, hW7⟩ : ∃ W, W = (w1.setCell ⟨w.heap.size, 0, none⟩ (.string y.op)).setCell ⟨w.heap.size, 1, none⟩ (.int .i64 y.am) := ⟨_, rfl⟩
    have hx7 : W7.heap[w.heap.size]? = some (.cells #[.string y.op, .int .i64 y.am, .int .i64 q.day, .string q.f, .string q.t, .int .i64 q.dep, .int .i64 q.arr] segT (0, 0)) := by
      rw [hW7]
      have e1 : (w1.setCell ⟨w.heap.size, 0, none⟩ (.string y.op)).heap[w.heap.size]? = some (.cells #[.string y.op, .int .i64 q.num, .int .i64 q.day, .string q.f, .string q.t, .int .i64 q.dep, .int .i64 q.arr] segT (0, 0)) := heap_setCell_same w1 w.heap.size 0 _ segT (.string y.op) hx
      exact heap_setCell_same (w1.setCell ⟨w.heap.size, 0, none⟩ (.string y.op)) w.heap.size 1 _ segT (.int .i64 y.am) e1
    have hbt : But w1 W7 (fun k => k = w.heap.size) := by rw [hW7]; exact (But.setCell w1 w.heap.size 0 _).trans (But.setCell _ w.heap.size 1 _) (fun _ _ h => h)
    have hm7 : W7.heap[w.heap.size + 1]? = some (.cells #[.string noB, .int .i64 0, .int .i64 0, .string noB, .string noB, .int .i64 0, .int .i64 0] segT (0, 0)) := (hbt.block _ (lt_of_cell2 hm) (fun h => absurd (show w.heap.size + 1 = w.heap.size from h) (by omega))).trans hm
    have HX7 : Hid (W7.drew.heap[w.heap.size]? = some (.cells #[.string y.op, .int .i64 y.am, .int .i64 q.day, .string q.f, .string q.t, .int .i64 q.dep, .int .i64 q.arr] segT (0, 0))) := Lib.hid hx7
    have HM7 : Hid (W7.drew.heap[w.heap.size + 1]? = some (.cells #[.string noB, .int .i64 0, .int .i64 0, .string noB, .string noB, .int .i64 0, .int .i64 0] segT (0, 0))) := Lib.hid hm7
    have HWB7 : Hid (Below w.heap.size w W7.drew) := Lib.hid (hwb.trans (hbt.below hwb.size (fun k hk => by omega))).drew
    have HW7 := Lib.hid hW7
    have n0 := (cell_of_row _ _ 0 _ _ (0, 0) hx).trans (show _ = some _ from rfl)
    have n1 := (cell_of_row _ _ 1 _ _ (0, 0) hx).trans (show _ = some _ from rfl)
    have z0 := frozen_of_row _ _ 0 _ _ hx
    have z1 := frozen_of_row _ _ 1 _ _ hx
    clear hfd hcc hk hbl hr hx hm hwb hW7 hx7 hm7 hbt hS hb1
    go_upto_region 3 with fail
    go_region
    clear n0 n1 z0 z1 d5 d6
    have hq : (w1.setCell ⟨w.heap.size, 0, none⟩ (.string y.op)).setCell ⟨w.heap.size, 1, none⟩ (.int .i64 y.am) = W7 := HW7.out.symm
    rw [hq]
    clear hq
    have hx := HX7.out
    have hm := HM7.out
    have hwb := HWB7.out
    clear HX7 HM7 HWB7 HW7
    generalize W7.drew = W at *
    have c0 := (cell_of_row _ _ 0 _ _ (0, 0) hx).trans (show _ = some _ from rfl)
    have c1 := (cell_of_row _ _ 1 _ _ (0, 0) hx).trans (show _ = some _ from rfl)
    have c2 := (cell_of_row _ _ 2 _ _ (0, 0) hx).trans (show _ = some _ from rfl)
    have c3 := (cell_of_row _ _ 3 _ _ (0, 0) hx).trans (show _ = some _ from rfl)
    have c4 := (cell_of_row _ _ 4 _ _ (0, 0) hx).trans (show _ = some _ from rfl)
    have c5 := (cell_of_row _ _ 5 _ _ (0, 0) hx).trans (show _ = some _ from rfl)
    have c6 := (cell_of_row _ _ 6 _ _ (0, 0) hx).trans (show _ = some _ from rfl)
    have n0 := (cell_of_row _ _ 0 _ _ (0, 0) hm).trans (show _ = some _ from rfl)
    have n1 := (cell_of_row _ _ 1 _ _ (0, 0) hm).trans (show _ = some _ from rfl)
    have n2 := (cell_of_row _ _ 2 _ _ (0, 0) hm).trans (show _ = some _ from rfl)
    have n3 := (cell_of_row _ _ 3 _ _ (0, 0) hm).trans (show _ = some _ from rfl)
    have n4 := (cell_of_row _ _ 4 _ _ (0, 0) hm).trans (show _ = some _ from rfl)
    have n5 := (cell_of_row _ _ 5 _ _ (0, 0) hm).trans (show _ = some _ from rfl)
    have n6 := (cell_of_row _ _ 6 _ _ (0, 0) hm).trans (show _ = some _ from rfl)
    have z0 := frozen_of_row _ _ 0 _ _ hm
    have z1 := frozen_of_row _ _ 1 _ _ hm
    have z2 := frozen_of_row _ _ 2 _ _ hm
    have z3 := frozen_of_row _ _ 3 _ _ hm
    have z4 := frozen_of_row _ _ 4 _ _ hm
    have z5 := frozen_of_row _ _ 5 _ _ hm
    have z6 := frozen_of_row _ _ 6 _ _ hm
    have HX2 : Hid (∀ U, U = S7 W (w.heap.size + 1) (.string y.op) (.int .i64 y.am) (.int .i64 q.day) (.string q.f) (.string q.t) (.int .i64 q.dep) (.int .i64 q.arr) → U.heap[w.heap.size + 1]? = some (.cells #[.string y.op, .int .i64 y.am, .int .i64 q.day, .string q.f, .string q.t, .int .i64 q.dep, .int .i64 q.arr] segT (0, 0)) ∧ Below w.heap.size w U) := Lib.hid (fun U h => by rw [h]; exact ⟨S7.heap hm _ _ _ _ _ _ _, hwb.trans ((S7.but _ _ _ _ _ _ _ _ _).below hwb.size (fun k hk => by omega))⟩)
    clear hx hm hwb
    go_wp2
    obtain ⟨hxx, hbb⟩ := HX2.out _ rfl
    unfold S7 at hxx hbb
    clear HX2
    generalize hWW : (((((((W.setCell ⟨w.heap.size + 1, 0, none⟩ (.string y.op)).setCell ⟨w.heap.size + 1, 1, none⟩ (.int .i64 y.am)).setCell ⟨w.heap.size + 1, 2, none⟩ (.int .i64 q.day)).setCell ⟨w.heap.size + 1, 3, none⟩ (.string q.f)).setCell ⟨w.heap.size + 1, 4, none⟩ (.string q.t)).setCell ⟨w.heap.size + 1, 5, none⟩ (.int .i64 q.dep)).setCell ⟨w.heap.size + 1, 6, none⟩ (.int .i64 q.arr)) = WW at *
    clear hWW c0 n0 z0 c1 n1 z1 c2 n2 z2 c3 n3 z3 c4 n4 z4 c5 n5 z5 c6 n6 z6
    have e0 := (cell_of_row WW _ 0 _ _ (0, 0) hxx).trans (show _ = some _ from rfl)
    have e1 := (cell_of_row WW _ 1 _ _ (0, 0) hxx).trans (show _ = some _ from rfl)
    have e2 := (cell_of_row WW _ 2 _ _ (0, 0) hxx).trans (show _ = some _ from rfl)
    have e3 := (cell_of_row WW _ 3 _ _ (0, 0) hxx).trans (show _ = some _ from rfl)
    have e4 := (cell_of_row WW _ 4 _ _ (0, 0) hxx).trans (show _ = some _ from rfl)
    have e5 := (cell_of_row WW _ 5 _ _ (0, 0) hxx).trans (show _ = some _ from rfl)
    have e6 := (cell_of_row WW _ 6 _ _ (0, 0) hxx).trans (show _ = some _ from rfl)
    rw [operF_some HFD.out]
    refine bodyPost_ret (v := .agg #[.string y.op, .int .i64 y.am, .int .i64 q.day, .string q.f, .string q.t, .int .i64 q.dep, .int .i64 q.arr]) ?_ rfl ⟨rfl, hbb⟩
    simp [results, Tryz.results15, go_sem, e0, e1, e2, e3, e4, e5, e6]

end Go.Proofs.YtdpcjafkahhecaaGreatDoor

/- Whether legs lead from an airport to another: the program's and the reference's. -/
namespace Go.Proofs.YtdpcjafkahhecaaGreatDoor
open Go.RowKit Go.Shelf
set_option linter.unusedSimpArgs false
set_option linter.unusedVariables false

/-- one of the legs departs from fr (or bg: one ahead did), and it or a later one arrives at tt -/
def lead (fr tt : ByteArray) : Bool → List Lg → Bool
  | _, [] => false
  | bg, x :: r => ((bg || (x.f.toList == fr.toList)) && (x.t.toList == tt.toList)) || lead fr tt (bg || (x.f.toList == fr.toList)) r
theorem lead_true (fr tt : ByteArray) : ∀ l, lead fr tt true l = l.any (fun x => x.t.toList == tt.toList)
  | [] => rfl
  | x :: r => by simp only [lead, Bool.true_or, Bool.true_and, List.any_cons, lead_true fr tt r]
theorem lead_none (fr tt : ByteArray) : ∀ l : List Lg, l.any (fun x => x.f.toList == fr.toList) = false → lead fr tt false l = false
  | [], _ => rfl
  | x :: r, h => by
    rw [List.any_cons, Bool.or_eq_false_iff] at h
    simp only [lead, h.1, Bool.false_or, Bool.false_and, lead_none fr tt r h.2]
theorem lead_at (fr tt : ByteArray) : ∀ (l : List Lg) (k : Nat) (x : Lg), l[k]? = some x → (x.f.toList == fr.toList) = true → (l.take k).any (fun x => x.f.toList == fr.toList) = false → lead fr tt false l = (l.drop k).any (fun x => x.t.toList == tt.toList)
  | [], k, x, h, _, _ => by simp at h
  | y :: r, 0, x, h, h1, _ => by
    simp at h
    subst h
    simp only [lead, h1, Bool.or_true, Bool.true_and, lead_true, List.drop_zero, List.any_cons]
  | y :: r, k + 1, x, h, h1, h2 => by
    rw [List.take_succ_cons, List.any_cons, Bool.or_eq_false_iff] at h2
    simp only [lead, h2.1, Bool.false_or, Bool.false_and, List.drop_succ_cons]
    exact lead_at fr tt r k x (by simpa using h) h1 h2.2
theorem lead_drop (fr tt : ByteArray) {bg : Bool} {l : List Lg} {k : Nat} {x : Lg} (h : l[k]? = some x) : lead fr tt bg (l.drop k) = (((bg || (x.f.toList == fr.toList)) && (x.t.toList == tt.toList)) || lead fr tt (bg || (x.f.toList == fr.toList)) (l.drop (k + 1))) := by
  obtain ⟨hlt, rfl⟩ := List.getElem?_eq_some_iff.1 h
  rw [List.drop_eq_getElem_cons hlt]
  rfl
set_option maxRecDepth 100000 in
set_option maxHeartbeats 8000000 in
theorem rleads_of (car : ByteArray) (num pf pt pd : Int) (A : Option Addr) (c : Nat) (l : List Lg) (fr tt : ByteArray) (w : World) (hl : l.length ≤ 1000) (hG : LegL w (.slice A l.length c) l) :
    Calls Tryz.prog 107 #[.agg #[.string car, .int .i64 num, .int .i64 pf, .int .i64 pt, .int .i64 pd, .slice A l.length c], .string fr, .string tt] w fun e w' => e = .returned (.bool (lead fr tt false l)) ∧ Below w.heap.size w w' := by
  have hb0 := bel_alloc w (.cells #[.string car, .int .i64 num, .int .i64 pf, .int .i64 pt, .int .i64 pd, .slice A l.length c] fliT)
  have q5 := (cells_new w #[.string car, .int .i64 num, .int .i64 pf, .int .i64 pt, .int .i64 pd, .slice A l.length c] fliT 5).trans (show _ = some (Value.slice A l.length c) from rfl)
  have HG := Lib.hid (hG.more hb0)
  have HB0 := Lib.hid hb0
  go_enter Tryz.func107, Tryz.ntmps107
  go_upto_region 1 with fail
  generalize hw5 : w.alloc (.cells #[.string car, .int .i64 num, .int .i64 pf, .int .i64 pt, .int .i64 pd, .slice A l.length c] fliT) = w5 at *
  clear hw5 hG hb0
  have HB := Lib.hid HB0.out
  have Q5 := Lib.hid (bel_get q5)
  clear q5 HB0
  go_wp2
  go_loopw [7, 8] (fun bv vi wr => ∃ (k : Nat) (bg : Bool), k ≤ l.length ∧ bv = .bool bg ∧ vi = .int .i64 k ∧ Hid (lead fr tt false l = lead fr tt bg (l.drop k)) ∧ SW w5 wr) (fun _ vi _ => l.length - (intOf vi).toNat)
  case atStart => exact ⟨0, false, Nat.zero_le _, rfl, rfl, Lib.hid rfl, Below.refl _ _⟩
  case round =>
    obtain ⟨k, bg, hk, rfl, rfl, HK, hS⟩ := hrel
    have y5 := Q5.out _ hS
    by_cases hlt : k < l.length
    · obtain ⟨b, off, a, rfl, hgl, hka, z0, z1, z2, z3, z4⟩ := LegL.get (HG.out.more hS) hlt
      have i2 : (k : Int) < (l.length : Int) := by omega
      have i2n : k < l.length := hlt
      have HD := Lib.hid (lead_drop fr tt (bg := bg) hka)
      clear hka
      cases h1 : (a.f.toList == fr.toList) <;> cases h2 : (a.t.toList == tt.toList) <;> cases bg <;> rw [h1, h2] at HD <;> simp only [Bool.or_true, Bool.true_or, Bool.or_false, Bool.false_or, Bool.and_true, Bool.and_false, Bool.true_and, Bool.false_and] at HD
      all_goals go_wp2
      all_goals first
        | (go_ret; exact ⟨ret_bool (HK.out.trans HD.out).symm, HB.out.trans (Below.mono hS HB.out.size)⟩)
        | skip
      all_goals go_roundw
      all_goals first
        | (case measure => simp [intOf]; omega)
        | exact ⟨k + 1, _, by omega, rfl, by go_num, Lib.hid (HK.out.trans HD.out), hS⟩
    · have HR : Hid (lead fr tt false l = false) := Lib.hid (by rw [HK.out, List.drop_of_length_le (by omega)]; rfl)
      go_wp2
      go_ret
      exact ⟨ret_bool HR.out.symm, HB.out.trans (Below.mono hS HB.out.size)⟩
theorem rleads_any (f : FV) (fr tt : ByteArray) (w : World) (hl : f.lg.length ≤ 1000) (hG : LegL w (.slice f.A f.lg.length f.c) f.lg) :
    Calls Tryz.prog 107 #[encFl f, .string fr, .string tt] w fun e w' => e = .returned (.bool (lead fr tt false f.lg)) ∧ Below w.heap.size w w' := rleads_of f.car f.num f.pf f.pt f.pd f.A f.c f.lg fr tt w hl hG
end Go.Proofs.YtdpcjafkahhecaaGreatDoor

/- Walk of leads of the program: the first leg from an airport, and a later one to another. -/
namespace Go.Proofs.YtdpcjafkahhecaaGreatDoor
open Go.RowKit Go.Shelf
set_option linter.unusedSimpArgs false
set_option linter.unusedVariables false

/-- r is the first place at which p is true, or -1 -/
def IdxLg (p : Lg → Bool) (l : List Lg) (r : Int) : Prop := (r = -1 ∧ l.any p = false) ∨ (∃ (k : Nat) (y : Lg), r = (k : Int) ∧ l[k]? = some y ∧ p y = true ∧ (l.take k).any p = false)
set_option maxHeartbeats 4000000 in
set_option maxRecDepth 100000 in
theorem indexLx_any (g : Nat) (cb : Array Value) (A : Option Addr) (c : Nat) (l : List Lg) (p : Lg → Bool) (w : World) (eg : ∀ args w, (callFunc g args).run Tryz.prog w = .ok (.enter g args) w) (hl : l.length ≤ 1000) (hL : LegL w (.slice A l.length c) l)
    (hf : ∀ (a : Lg) (W : World), a ∈ l → Below w.heap.size w W → Calls Tryz.prog g (#[encG a] ++ cb) W fun e w' => e = .returned (.bool (p a)) ∧ Below W.heap.size W w') :
    Calls Tryz.prog 100 #[.slice A l.length c, .func (.func g) #[] cb] w fun e w' => ∃ r : Int, e = .returned (.int .i64 r) ∧ Hid (IdxLg p l r) ∧ Below w.heap.size w w' := by
  have HF := Lib.hid hf
  clear hf
  go_enter Tryz.func100, Tryz.ntmps100
  go_wp2
  go_loopw [8] (fun vi wr => ∃ k : Nat, k ≤ l.length ∧ vi = .int .i64 k ∧ Hid ((l.take k).any p = false) ∧ Below w.heap.size w wr) (fun vi _ => l.length - (intOf vi).toNat)
  case atStart => exact ⟨0, Nat.zero_le _, rfl, Lib.hid rfl, Below.refl _ _⟩
  case round =>
    obtain ⟨k, hk, rfl, HK, hb⟩ := hrel
    by_cases hlt : k < l.length
    · obtain ⟨b, off, a, rfl, hgl, hka, z0, z1, z2, z3, z4⟩ := LegL.get (hL.more hb) hlt
      have i2 : (k : Int) < (l.length : Int) := by omega
      have hc := HF.out a wr (List.mem_of_getElem? hka) hb
      have HT : Hid ((l.take (k + 1)).any p = p a) := Lib.hid (by rw [List.take_add_one, hka, List.any_append, HK.out]; simp)
      cases hp : p a <;> rw [hp] at hc HT
      · clear hp hka
        go_wp2_with (refine hc.mono ?_; rintro e w' ⟨rfl, hb'⟩)
        go_roundw
        case rel => exact ⟨k + 1, by omega, by go_num, HT, hb.trans (hb'.mono hb.size)⟩
        case measure => simp [intOf]; omega
      · have HR : Hid (IdxLg p l (k : Int)) := Lib.hid (.inr ⟨k, a, rfl, hka, hp, HK.out⟩)
        clear hp hka
        go_wp2_with (refine hc.mono ?_; rintro e w' ⟨rfl, hb'⟩)
        go_ret
        exact ⟨_, rfl, HR, hb.trans (hb'.mono hb.size)⟩
    · have HR : Hid (IdxLg p l (-1)) := Lib.hid (.inl ⟨rfl, by have h := HK.out; rwa [List.take_of_length_le (by omega)] at h⟩)
      go_wp2
      go_ret
      exact ⟨-1, rfl, HR, hb⟩
def frQ (s : ByteArray) (x : Lg) : Bool := x.f.toList == s.toList
def toQ (s : ByteArray) (x : Lg) : Bool := x.t.toList == s.toList
set_option maxHeartbeats 400000 in
theorem leads1_any (a : Lg) (s : ByteArray) (B : Nat) (W : World) (z : W.cell? ⟨B, 0, none⟩ = some (.string s)) :
    Calls Tryz.prog 101 #[encG a, .pointer (some ⟨B, 0, none⟩)] W fun e w' => e = .returned (.bool (frQ s a)) ∧ Below W.heap.size W w' := by
  have hlt := World.block_lt_of_cell? _ _ z
  have z' := (Below.cell (bel_alloc W (.cells #[.string a.f, .string a.t, .int .i64 a.dep, .int .i64 a.arr, .string a.eq] legT)) (p := ⟨B, 0, none⟩) hlt).trans z
  go_enter Tryz.func101, Tryz.ntmps101
  go_wp2
  go_ret
  exact ⟨rfl, bel_alloc _ _⟩
set_option maxHeartbeats 400000 in
theorem leads2_any (a : Lg) (s : ByteArray) (B : Nat) (W : World) (z : W.cell? ⟨B, 0, none⟩ = some (.string s)) :
    Calls Tryz.prog 103 #[encG a, .pointer (some ⟨B, 0, none⟩)] W fun e w' => e = .returned (.bool (toQ s a)) ∧ Below W.heap.size W w' := by
  have hlt := World.block_lt_of_cell? _ _ z
  have z' := (Below.cell (bel_alloc W (.cells #[.string a.f, .string a.t, .int .i64 a.dep, .int .i64 a.arr, .string a.eq] legT)) (p := ⟨B, 0, none⟩) hlt).trans z
  go_enter Tryz.func103, Tryz.ntmps103
  go_wp2
  go_ret
  exact ⟨rfl, bel_alloc _ _⟩
theorem legs_drop {W : World} {b o n c c' : Nat} {l : List Lg} (h : LegL W (.slice (some ⟨b, o, none⟩) n c) l) (k : Nat) (hk : k < l.length) : LegL W (.slice (some ⟨b, o + k * 5, none⟩) (l.drop k).length c') (l.drop k) := by
  obtain ⟨A, c2, e, h⟩ := h
  simp only [Value.slice.injEq] at e
  obtain ⟨rfl, _, _⟩ := e
  rcases h with h | ⟨b', o', e, hlt, hc⟩
  · rw [h] at hk; simp at hk
  · cases e
    refine ⟨_, _, rfl, .inr ⟨b, o + k * 5, rfl, hlt, fun i x j u hi hu => ?_⟩⟩
    rw [List.getElem?_drop] at hi
    have := hc (k + i) x j u hi hu
    rw [show o + k * 5 + i * 5 + j = o + (k + i) * 5 + j by rw [Nat.add_mul]; omega]
    exact this
set_option maxRecDepth 100000 in
set_option maxHeartbeats 4000000 in
theorem leads_any (A : Option Addr) (c : Nat) (l : List Lg) (fr tt : ByteArray) (w : World) (hl : l.length ≤ 1000) (hcap : l.length ≤ c) (hG : LegL w (.slice A l.length c) l) :
    Calls Tryz.prog 62 #[.slice A l.length c, .string fr, .string tt] w fun e w' => e = .returned (.bool (lead fr tt false l)) ∧ Below w.heap.size w w' := by
  have hb1 := bel_alloc w (.cells #[.string fr] 9)
  have hb2 := bel_alloc (w.alloc (.cells #[.string fr] 9)) (.cells #[.string tt] 9)
  have hb0 := hb1.trans (hb2.mono hb1.size)
  have q0 := bel_cell hb2 ((cells_new w #[.string fr] 9 0).trans (show _ = some (Value.string fr) from rfl))
  have q1 := (cells_new (w.alloc (.cells #[.string fr] 9)) #[.string tt] 9 0).trans (show _ = some (Value.string tt) from rfl)
  rw [World.size_alloc] at q1
  have HG := Lib.hid (hG.more hb0)
  have HB0 := Lib.hid hb0
  have eg1 : ∀ args w, (callFunc 101 args).run Tryz.prog w = .ok (.enter 101 args) w := enters_of Tryz.func101 (by kernel_rfl) rfl
  have eg2 : ∀ args w, (callFunc 103 args).run Tryz.prog w = .ok (.enter 103 args) w := enters_of Tryz.func103 (by kernel_rfl) rfl
  have HE2 := Lib.hid eg2
  obtain ⟨B, hB⟩ : ∃ B, B = w.heap.size := ⟨_, rfl⟩
  rw [← hB] at q0 q1
  go_enter Tryz.func62, Tryz.ntmps62
  go_upto_region 1 with fail
  rw [← hB]
  clear hB
  generalize hw5 : ((w.alloc (.cells #[.string fr] 9)).alloc (.cells #[.string tt] 9)) = w5 at *
  clear hw5 hG hb0 hb1 hb2
  have KI := Lib.hid (indexLx_any 101 #[.pointer (some ⟨B, 0, none⟩)] A c l (frQ fr) w5 eg1 hl HG.out (fun a W _ hb => leads1_any a fr B W (bel_get q0 _ hb)))
  clear eg1 eg2
  go_upto_region 2 with (go_at_call 100; refine KI.out.mono ?_; rintro e w6 ⟨r, rfl, HR, hb6⟩)
  have q1 := bel_cell hb6 q1
  have HB6 : Hid (Below w.heap.size w w6) := Lib.hid (HB0.out.trans (Below.mono hb6 HB0.out.size))
  rcases HR.out with ⟨rfl, hno⟩ | ⟨k, y, rfl, hk, hy, hpre⟩
  · have HL : Hid (lead fr tt false l = false) := Lib.hid (lead_none fr tt l hno)
    clear hno HR KI
    go_wp2
    go_ret
    exact ⟨by rw [HL.out]; rfl, HB6.out⟩
  · have HL : Hid (lead fr tt false l = (l.drop k).any (toQ tt)) := Lib.hid (lead_at fr tt l k y hk hy hpre)
    have hkl : k < l.length := (List.getElem?_eq_some_iff.1 hk).1
    obtain ⟨bb, o, x, rfl, _, _, _⟩ := LegL.get (HG.out.more hb6) hkl
    have KC : Hid (Calls Tryz.prog 102 #[.slice (some ⟨bb, o + k * 5, none⟩) (l.length - k) (c - k), .func (.func 103) #[] #[.pointer (some ⟨B + 1, 0, none⟩)]] w6 fun e w' => e = .returned (.bool ((l.drop k).any (toQ tt))) ∧ Below w6.heap.size w6 w') := Lib.hid (by
      have h := containsL_any 103 #[.pointer (some ⟨B + 1, 0, none⟩)] (some ⟨bb, o + k * 5, none⟩) (c - k) (l.drop k) (toQ tt) w6 HE2.out (by rw [List.length_drop]; omega) (legs_drop (HG.out.more hb6) k hkl) (fun a W _ hb => leads2_any a tt (B + 1) W (bel_get q1 _ hb))
      rw [List.length_drop] at h
      exact h)
    have i0 : (0 : Int) ≤ (k : Int) := by omega
    have i1 : (k : Int) ≤ (l.length : Int) := by omega
    have i2 : (l.length : Int) ≤ (c : Int) := by omega
    have i3 : ¬ c = k := by omega
    have i4 : k < c := by omega
    have i5 : (k : Int) < (c : Int) := by omega
    have i6 : ¬ (c : Int) = (k : Int) := by omega
    clear hk hy hpre HR KI q0 q1 hkl hcap
    generalize (l.drop k).any (toQ tt) = an at *
    go_wp2_with (go_at_call 102; refine KC.out.mono ?_; rintro e w7 ⟨rfl, hb7⟩)
    go_ret
    exact ⟨by rw [HL.out]; rfl, HB6.out.trans (hb7.mono HB6.out.size)⟩
end Go.Proofs.YtdpcjafkahhecaaGreatDoor

/- A map of maps with any values: what is entered under each name on each day. -/
namespace Go.Proofs.YtdpcjafkahhecaaGreatDoor
open Go.RowKit Go.Shelf Go.Maps
set_option linter.unusedSimpArgs false
set_option linter.unusedVariables false

abbrev cnT : TypeId := 73
theorem rowNameC : cnT < Tryz.prog.types.size := by decide +kernel
theorem nameKC : Keyed Tryz.prog cnT := Keyed.of_law (deep_law_laid laidOutP (m := 2) (by omega) rowNameC (by kernel_rfl) (by kernel_rfl))
theorem key_nameC (c : ByteArray × Int) (h1 : c.1.size ≤ maxLen) (h2 : (Lit.int .i64 c.2).wf = true) : ∃ kl, keyOf Tryz.prog cnT (enN c) = some kl := by
  have hu := Tryz.underlying73
  have hs := Tryz.underlying9
  have hi := Tryz.underlying3
  have hkt : Tryz.prog.keyType cnT = true := by kernel_rfl
  have hc : Tryz.prog.cellsOf cnT = 2 := by kernel_rfl
  have hc1 : Tryz.prog.cellsOf 9 = 1 := by kernel_rfl
  have hc2 : Tryz.prog.cellsOf 3 = 1 := by kernel_rfl
  obtain ⟨m, hm⟩ : ∃ m, Tryz.prog.types.size = m + 1 := ⟨Tryz.prog.types.size - 1, by decide +kernel⟩
  refine ⟨.string (keyBytes [.string c.1.data.toList, .int .i64 c.2]), ?_⟩
  unfold keyOf enN
  simp only [hu]
  rw [if_pos (by simp [hkt, Value.formed, hu, hc]), hm]
  unfold Program.keyLits
  simp only [hu, Value.cells]
  rw [if_pos (by simp [hc])]
  simp [List.mapM_cons, Program.keyLits, hs, hi, hc1, hc2, h1, h2]

abbrev MapDv (w : World) (b n : Nat) (U : Int → Option Value) : Prop := MapK Tryz.prog 3 enI w b n U
abbrev MapNc (w : World) (b n : Nat) (g : ByteArray × Int → Option Value) : Prop := MapK Tryz.prog cnT enN w b n g
/-- block b is a map that has at each name a map of what T says of the days -/
structure TV (w : World) (b lo n : Nat) (g : ByteArray × Int → Option Value) (T : ByteArray × Int → Int → Option Value) : Prop where
  map : MapNc w b n g
  hlo : lo ≤ b
  inn : ∀ c v, g c = some v → ∃ b' m, v = .map (some b') ∧ lo ≤ b' ∧ b' ≠ b ∧ m ≤ 800 * n ∧ MapDv w b' m (T c)
  out : ∀ c, g c = none → ∀ d, T c d = none
  inj : ∀ c c' b', g c = some (.map (some b')) → g c' = some (.map (some b')) → c = c'
theorem TV.more {w w' : World} {b lo n : Nat} {g : ByteArray × Int → Option Value} {T : ByteArray × Int → Int → Option Value} (h : TV w b lo n g T) (hb : Below w.heap.size w w') : TV w' b lo n g T :=
  ⟨h.map.more hb, h.hlo, fun c v hc => by
    obtain ⟨b', m, e, h1, h2, h3, h4⟩ := h.inn c v hc
    exact ⟨b', m, e, h1, h2, h3, h4.more hb⟩, h.out, h.inj⟩
theorem TV.made (w : World) (lo : Nat) (hlo : lo ≤ w.heap.size) : TV (w.alloc (.map #[] 0)) w.heap.size lo 0 (fun _ => none) (fun _ _ => none) :=
  ⟨MapK.made w _ _ _, hlo, fun c v hc => (by cases hc), fun _ _ _ => rfl, fun c c' b' hc => by cases hc⟩
/-- the same while the days of one name are being added -/
structure TW (w : World) (b lo n : Nat) (g : ByteArray × Int → Option Value) (T : ByteArray × Int → Int → Option Value) (c : ByteArray × Int) (B m : Nat) (U : Int → Option Value) : Prop where
  map : MapNc w b (n + 1) g
  hlo : lo ≤ b
  here : g c = some (.map (some B))
  hB : lo ≤ B
  hne : B ≠ b
  row : MapDv w B m U
  inn : ∀ c' v, c' ≠ c → g c' = some v → ∃ b' m', v = .map (some b') ∧ lo ≤ b' ∧ b' ≠ b ∧ b' ≠ B ∧ m' ≤ 800 * n ∧ MapDv w b' m' (T c')
  out : ∀ c', c' ≠ c → g c' = none → ∀ d, T c' d = none
  inj : ∀ c c' b', g c = some (.map (some b')) → g c' = some (.map (some b')) → c = c'
theorem TW.more {w w' : World} {b lo n : Nat} {g : ByteArray × Int → Option Value} {T : ByteArray × Int → Int → Option Value} {c : ByteArray × Int} {B m : Nat} {U : Int → Option Value} (h : TW w b lo n g T c B m U) (hb : Below w.heap.size w w') : TW w' b lo n g T c B m U :=
  ⟨h.map.more hb, h.hlo, h.here, h.hB, h.hne, h.row.more hb, fun c' v hc hv => by
    obtain ⟨b', m', e, h1, h2, h3, h4, h5⟩ := h.inn c' v hc hv
    exact ⟨b', m', e, h1, h2, h3, h4, h5.more hb⟩, h.out, h.inj⟩
/-- the name is there already -/
theorem TV.start {w : World} {b lo n : Nat} {g : ByteArray × Int → Option Value} {T : ByteArray × Int → Int → Option Value} (h : TV w b lo n g T) {c : ByteArray × Int} {v : Value} (hc : g c = some v) : ∃ B m, v = .map (some B) ∧ m ≤ 800 * n ∧ TW w b lo n g T c B m (T c) := by
  obtain ⟨B, m, rfl, h1, h2, h3, h4⟩ := h.inn c v hc
  refine ⟨B, m, rfl, h3, h.map.weak (Nat.le_succ _), h.hlo, hc, h1, h2, h4, fun c' v hne hv => ?_, fun c' _ => h.out c', h.inj⟩
  obtain ⟨b', m', rfl, g1, g2, g3, g4⟩ := h.inn c' v hv
  exact ⟨b', m', rfl, g1, g2, fun e => hne (h.inj c' c b' hv (by rw [e]; exact hc)), g3, g4⟩
/-- the name is new: an empty map is made and put -/
theorem TV.fresh {w w' : World} {b lo n : Nat} {g : ByteArray × Int → Option Value} {T : ByteArray × Int → Int → Option Value} (h : TV w b lo n g T) {c : ByteArray × Int} (hc : g c = none)
    (hm : MapNc w' b (n + 1) (fun c' => if c' = c then some (.map (some w.heap.size)) else g c')) (hg : (w.alloc (.map #[] 0)).grownBy w' (some b)) (hlo : lo ≤ w.heap.size) : TW w' b lo n (fun c' => if c' = c then some (.map (some w.heap.size)) else g c') T c w.heap.size 0 (T c) := by
  have hbl := h.map.lt
  have hb1 := bel_alloc w (.map #[] 0)
  refine ⟨hm, h.hlo, if_pos rfl, hlo, by omega, ?_, fun c' v hne hv => ?_, fun c' hne hv => ?_, fun c1 c2 b' h1 h2 => ?_⟩
  · have e : T c = fun _ => none := by funext d; exact h.out c hc d
    show MapK _ _ _ _ _ _ (T c)
    rw [e]
    exact (MapK.made w _ _ _).grown hg (fun e => by have := Option.some.inj e; omega)
  · rw [if_neg hne] at hv
    obtain ⟨b', m', rfl, g1, g2, g3, g4⟩ := h.inn c' v hv
    exact ⟨b', m', rfl, g1, g2, by have := g4.lt; omega, g3, (g4.more hb1).grown hg (fun e => g2 (Option.some.inj e))⟩
  · rw [if_neg hne] at hv
    exact h.out c' hv
  · by_cases e1 : c1 = c
    · by_cases e2 : c2 = c
      · rw [e1, e2]
      · rw [if_pos e1] at h1
        rw [if_neg e2] at h2
        obtain ⟨b2, m2, e, _, _, _, g4⟩ := h.inn c2 _ h2
        cases e
        have := g4.lt
        cases h1
        omega
    · rw [if_neg e1] at h1
      by_cases e2 : c2 = c
      · rw [if_pos e2] at h2
        obtain ⟨b2, m2, e, _, _, _, g4⟩ := h.inn c1 _ h1
        cases e
        have := g4.lt
        cases h2
        omega
      · rw [if_neg e2] at h2
        exact h.inj c1 c2 b' h1 h2
theorem TW.put {w w' : World} {b lo n : Nat} {g : ByteArray × Int → Option Value} {T : ByteArray × Int → Int → Option Value} {c : ByteArray × Int} {B m : Nat} {U : Int → Option Value} (h : TW w b lo n g T c B m U) {d : Int} {u : Value}
    (hm : MapK Tryz.prog 3 enI w' B (m + 1) (fun d' => if d' = d then some u else U d')) (hg : w.grownBy w' (some B)) : TW w' b lo n g T c B (m + 1) (fun d' => if d' = d then some u else U d') := by
  refine ⟨h.map.grown hg (fun e => h.hne (Option.some.inj e).symm), h.hlo, h.here, h.hB, h.hne, hm, fun c' v hc hv => ?_, h.out, h.inj⟩
  obtain ⟨b', m', e, h1, h2, h3, h4, h5⟩ := h.inn c' v hc hv
  exact ⟨b', m', e, h1, h2, h3, h4, h5.grown hg (fun e => h3 (Option.some.inj e))⟩
theorem TW.stop {w : World} {b lo n : Nat} {g : ByteArray × Int → Option Value} {T T' : ByteArray × Int → Int → Option Value} {c : ByteArray × Int} {B m : Nat} {U : Int → Option Value} (h : TW w b lo n g T c B m U) (hm : m ≤ 800 * (n + 1)) (h1 : T' c = U) (h2 : ∀ c', c' ≠ c → T' c' = T c') : TV w b lo (n + 1) g T' := by
  refine ⟨h.map, h.hlo, fun c' v hv => ?_, fun c' hv => ?_, h.inj⟩
  · by_cases e : c' = c
    · subst e
      rw [h.here] at hv
      cases hv
      exact ⟨B, m, rfl, h.hB, h.hne, hm, by rw [h1]; exact h.row⟩
    · obtain ⟨b', m', g0, g1, g2, g3, g4, g5⟩ := h.inn c' v e hv
      exact ⟨b', m', g0, g1, g2, Nat.le_trans g4 (by omega), by rw [h2 c' e]; exact g5⟩
  · by_cases e : c' = c
    · subst e
      rw [h.here] at hv
      cases hv
    · rw [h2 c' e]
      exact h.out c' e hv
/-- what is entered behind days under a name -/
def enP (T : ByteArray × Int → Int → Option Value) (c : ByteArray × Int) (D : List Int) (u : Value) (c' : ByteArray × Int) (d : Int) : Option Value := if c' = c ∧ d ∈ D then some u else T c' d
theorem TV.but {w w' : World} {X : Nat → Prop} {b lo n : Nat} {g : ByteArray × Int → Option Value} {T : ByteArray × Int → Int → Option Value} (h : TV w b lo n g T) (hB : But w w' X) (hx : ∀ k, MapX w lo k → ¬ X k) : TV w' b lo n g T := by
  have same : ∀ k, k < w.heap.size → MapX w lo k → w'.heap[k]? = w.heap[k]? := fun k hk hm => hB.block k hk (hx k hm)
  exact ⟨h.map.same (same _ h.map.lt (h.map.isX h.hlo)), h.hlo, fun c v hc => by
    obtain ⟨b', m, e, h1, h2, h3, h4⟩ := h.inn c v hc
    exact ⟨b', m, e, h1, h2, h3, h4.same (same _ h4.lt (h4.isX h1))⟩, h.out, h.inj⟩
end Go.Proofs.YtdpcjafkahhecaaGreatDoor
