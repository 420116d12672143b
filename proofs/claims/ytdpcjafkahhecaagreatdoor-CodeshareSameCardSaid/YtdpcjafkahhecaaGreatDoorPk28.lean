/- Words and walks that the laws below ask: ClosNC, Shr7, Shr8. -/
import Derived.Deep.LoopGhost
import Derived.BigQuiet
import Derived.Test.YtdpcjafkahhecaaGreatDoorPk3
import Derived.Test.YtdpcjafkahhecaaGreatDoorPk6
import Derived.Test.YtdpcjafkahhecaaGreatDoorPk23
import Derived.Test.YtdpcjafkahhecaaGreatDoorPk26
/- Closed facts on the program and its rows: what each law names, whom it follows. -/
namespace Go.Proofs.YtdpcjafkahhecaaGreatDoor

theorem codeshareSame_c1 : Tryz.pinned.checked.prog.inPlace 7 = Rows.codeshareSameRow.inPlace := by kernel_rfl
theorem codeshareSame_c2 : Tryz.pinned.checked.prog.unfollowed 7 = Rows.codeshareSameRow.unfollowed := by kernel_rfl
theorem codeshareSame_c3 : Tryz.pinned.checked.prog.recurses 7 = Rows.codeshareSameRow.recurses := by kernel_rfl
theorem codeshareSame_c4 : Tryz.pinned.checked.prog.varsNamed 7 = Rows.codeshareSameRow.named := by kernel_rfl

end Go.Proofs.YtdpcjafkahhecaaGreatDoor

/- Plain facts on what is sold under shares that are right. -/
namespace Go.Proofs.YtdpcjafkahhecaaGreatDoor
open Go.RowKit Go.Shelf
set_option linter.unusedSimpArgs false
set_option linter.unusedVariables false

/-- of a segment of a flight Path tells its legs, and nothing else -/
theorem path_seg {l : List Air} {f : FV} {s : Sg} (hn : lgsF l f.lg f.lg.length = []) (hs : s ∈ segsL (legF l f s.day)) :
    ∃ J : List Idd, J ≠ [] ∧ J.length ≤ f.lg.length ∧ (∀ x ∈ J, x.car = f.car ∧ x.num = f.num ∧ x.day = s.day) ∧ ∀ e I, PathR l f s e I → e = 0 ∧ I = J := by
  obtain ⟨i, k, a, b, ha, hb, hik, hsg⟩ := segsL_mem hs
  have hq : Per.hasQ (f.pf, f.pt, f.pd) s.day = true := by
    cases hq : Per.hasQ (f.pf, f.pt, f.pd) s.day
    · unfold legF at ha
      rw [hq] at ha
      simp at ha
    · rfl
  have eL : legF l f s.day = f.lg.map (datL l f s.day) := by unfold legF; rw [hq]; rfl
  rw [eL] at ha hb
  obtain ⟨x, hx, rfl⟩ := map_at ha
  obtain ⟨y, hy, rfl⟩ := map_at hb
  have hmi : ((f.lg.map (datL l f s.day)).drop i)[0]? = some (datL l f s.day x) := by rw [List.getElem?_drop, Nat.add_zero]; exact ha
  have hmk : ((f.lg.map (datL l f s.day)).drop i)[k - i]? = some (datL l f s.day y) := by rw [List.getElem?_drop, show i + (k - i) = k by omega]; exact hb
  have hkl := (List.getElem?_eq_some_iff.1 hmk).1
  refine ⟨(((f.lg.map (datL l f s.day)).drop i).take (k - i + 1)).map idOf, fun h => ?_, by rw [List.length_map, List.length_take, List.length_drop, List.length_map]; omega, fun z hz => ?_, fun e I h => ?_⟩
  · have h2 := congrArg List.length h
    rw [List.length_map, List.length_take] at h2
    simp only [List.length_nil] at h2
    omega
  · obtain ⟨d, hd, rfl⟩ := List.mem_map.1 hz
    obtain ⟨g, _, rfl⟩ := List.mem_map.1 (List.mem_of_mem_drop (List.mem_of_mem_take hd))
    exact ⟨rfl, rfl, rfl⟩
  · have c1 : s.car = f.car := by rw [hsg]; rfl
    have n1 : s.num = f.num := by rw [hsg]; rfl
    have f1 : s.f = x.f := by rw [hsg]; rfl
    have t1 : s.t = y.t := by rw [hsg]; rfl
    have p1 : s.dep = (datL l f s.day x).dep := congrArg Sg.dep hsg
    have r1 : s.arr = (datL l f s.day y).arr := congrArg Sg.arr hsg
    rcases h with ⟨h, _⟩ | ⟨_, _, h, _⟩ | ⟨_, _, _, R, hc, h⟩
    · rcases h with h | h
      · rw [c1] at h; simp at h
      · exact absurd n1 h
    · exfalso
      apply h
      unfold legE
      rw [hq]; rfl
    · rw [eL] at hc
      rw [f1, t1] at hc
      have hR := cov_is hn hx hy hik hc
      have hlen : R.length = k - i + 1 := by rw [hR, List.length_take]; omega
      have hR0 : R[0]? = some (datL l f s.day x) := by rw [hR, List.getElem?_take, if_pos (by omega)]; exact hmi
      have hRk : R[R.length - 1]? = some (datL l f s.day y) := by rw [hlen, Nat.add_sub_cancel, hR, List.getElem?_take, if_pos (by omega)]; exact hmk
      rcases h with ⟨h3, _⟩ | ⟨a', z, ha', hz', h1⟩
      · rw [h3] at hlen; simp at hlen
      · rw [hR0] at ha'
        rw [hRk] at hz'
        cases ha'
        cases hz'
        rcases h1 with ⟨d1, _⟩ | ⟨_, _, h3, h4⟩
        · rcases d1 with d | d
          · exact absurd p1 d
          · exact absurd r1 d
        · exact ⟨h3, by rw [h4, hR]⟩
/-- who is sold under a right share is not operated under its name -/
theorem shr_own {fs : List FV} {sh : List Sh} (h : shrF fs sh sh.length = []) {y : Sh} (hy : y ∈ sh) {day : Int} (hq : Per.hasQ (y.pf, y.pt, y.pd) day = true) : onF fs y.car y.num day = none := by
  obtain ⟨k, hk⟩ := List.getElem?_of_mem hy
  unfold shrF at h
  have h2 := List.flatMap_eq_nil_iff.1 h k (List.mem_range.2 (List.getElem?_eq_some_iff.1 hk).1)
  rw [hk] at h2
  have h3 : okE (shEs fs (sh.take k) y) = [] := by simpa [pick] using h2
  have h4 : wh ((Per.daysQ (y.pf, y.pt, y.pd)).any (ownB fs (soS (sh.take k)) y)) 6 = 0 := by
    have := List.filter_eq_nil_iff.1 h3 (wh ((Per.daysQ (y.pf, y.pt, y.pd)).any (ownB fs (soS (sh.take k)) y)) 6) (by simp [shEs])
    simpa using this
  have h5 : (Per.daysQ (y.pf, y.pt, y.pd)).any (ownB fs (soS (sh.take k)) y) = false := by
    cases hb : (Per.daysQ (y.pf, y.pt, y.pd)).any (ownB fs (soS (sh.take k)) y)
    · rfl
    · rw [hb] at h4; simp [wh] at h4
  have h6 := List.any_eq_false.1 h5 day ((Per.daysQ_mem _ _).2 hq)
  rw [← opD_on]
  cases ho : opD fs (y.car, y.num) day with
  | none => rfl
  | some f => exfalso; apply h6; unfold ownB; rw [ho]; rfl
theorem oper_own {fs : List FV} {sh : List Sh} (h : shrF fs sh sh.length = []) {o : Sg} {f : FV} (hf : onF fs o.car o.num o.day = some f) : operF sh o = o := by
  refine operF_none ?_
  cases hb : sh.find? (fun s => shareB s o.car o.num o.day o.f o.t) with
  | none => rfl
  | some y =>
    exfalso
    have h1 := List.find?_some hb
    unfold shareB at h1
    simp only [Bool.and_eq_true, car_eq, decide_eq_true_eq, beq_iff_eq] at h1
    obtain ⟨c1, n1, _, _, q1⟩ := h1
    have h2 := shr_own h (List.mem_of_find?_eq_some hb) q1
    rw [c1, n1, hf] at h2
    cases h2
theorem Val9.at {p : PV} {fs : List FV} {sh : List Sh} (h : Val9 p fs sh) {k : Nat} {f : FV} (hk : fs[k]? = some f) : twcB (fs.take k) f = false := by
  have h1 := h.sch
  unfold schF at h1
  rw [List.flatMap_eq_nil_iff] at h1
  have hlt := (List.getElem?_eq_some_iff.1 hk).1
  have h2 := h1 k (List.mem_range.2 hlt)
  rw [hk] at h2
  obtain ⟨_, h4⟩ := List.append_eq_nil_iff.1 h2
  cases hb : twcB (fs.take k) f with
  | false => rfl
  | true =>
    rw [hb] at h4
    simp [wh, pick, okE] at h4
theorem Val9.on {p : PV} {fs : List FV} {sh : List Sh} (h : Val9 p fs sh) {f : FV} (hf : f ∈ fs) {day : Int} (hq : Per.hasQ (f.pf, f.pt, f.pd) day = true) : onF fs f.car f.num day = some f := by
  obtain ⟨k, hk⟩ := List.getElem?_of_mem hf
  refine onF_some hk ?_ (fun j g hj hg => ?_)
  · unfold onB; rw [hq]; simp
  · cases hb : onB f.car f.num day g with
    | false => rfl
    | true =>
      exfalso
      unfold onB at hb
      simp only [Bool.and_eq_true, car_eq, decide_eq_true_eq, beq_iff_eq] at hb
      obtain ⟨b1, b2, b3⟩ := hb
      have h1 := h.at hk
      have : twcB (fs.take k) f = true := by
        unfold twcB tkn
        rw [List.any_eq_true]
        refine ⟨day, (Per.daysQ_mem _ _).2 hq, ?_⟩
        rw [List.any_eq_true]
        refine ⟨g, ?_, by simp [b1, b2, b3]⟩
        refine List.mem_of_getElem? (i := j) ?_
        rw [List.getElem?_take_of_lt hj]
        exact hg
      rw [this] at h1
      cases h1
theorem sold_day7 {L : List Air} {fs : List FV} {sh : List Sh} {car : ByteArray} {num day : Int} {fr tt : ByteArray} (h : (soldF L fs sh car num day fr tt).1 = 0) : (soldF L fs sh car num day fr tt).2.day = day := by
  unfold soldF at h ⊢
  split
  · rename_i hr
    rw [if_pos hr] at h
    simp only at h
    rw [h] at hr
    simp at hr
  · rename_i hr
    exact (segF_ok (by simpa using hr)).2.2.1
/-- what a segment that is sold covers -/
structure Same9 (p : PV) (fs : List FV) (sh : List Sh) (s : Sg) (day : Int) (o : Sg) (J : List Idd) : Prop where
  sd : s.day = day
  od : o.day = day
  oo : operF sh s = o ∧ operF sh o = o
  ne : J ≠ []
  len : J.length ≤ 1000
  ids : ∀ x ∈ J, x.car = o.car ∧ x.num = o.num ∧ x.day = day
  cv : ∀ e I, CvR (fun f e I => PathR p.l f o e I) fs o e I → e = 0 ∧ I = J
theorem same_of {p : PV} {fs : List FV} {sh : List Sh} (hv : Val9 p fs sh) (hc : shrF fs sh sh.length = []) {s o : Sg} {f : FV} {day : Int} (sd : s.day = day) (od : o.day = day) (ho : operF sh s = o) (hf : onF fs o.car o.num o.day = some f) (hs : o ∈ segsL (legF p.l f o.day)) : ∃ J, Same9 p fs sh s day o J := by
  obtain ⟨hm, c1, n1, _⟩ := onF_at hf
  obtain ⟨J, h1, hJl, h2, h3⟩ := path_seg (chF_nil (hv.mem hm)).2.2.1 hs
  have hcv : ∀ e I, CvR (fun f e I => PathR p.l f o e I) fs o e I → e = 0 ∧ I = J := by
    intro e I h
    rcases h with ⟨h, _⟩ | ⟨g, hg, h⟩
    · rw [hf] at h; cases h
    · rw [hf] at hg
      cases hg
      exact h3 e I h
  refine ⟨J, sd, od, ⟨ho, oper_own hc hf⟩, h1, ?_, fun x hx => ?_, hcv⟩
  · have := hv.legs hm; omega
  · have := h2 x hx
    exact ⟨this.1.trans c1, this.2.1.trans n1, this.2.2.trans od⟩
theorem same_sold {p : PV} {fs : List FV} {sh : List Sh} (hv : Val9 p fs sh) (hc : shrF fs sh sh.length = []) {day : Int} {s : Sg} (hs : s ∈ soldL p.l fs sh day) : ∃ o J, Same9 p fs sh s day o J := by
  unfold soldL at hs
  rcases List.mem_append.1 hs with hs | hs
  · unfold fpart at hs
    obtain ⟨f, hf, hs⟩ := List.mem_flatMap.1 hs
    obtain ⟨x, hx, y, hy, e⟩ := segsI_mem hs
    obtain ⟨q1, c1, n1, d1⟩ := legF_mem hx
    have sc : s.car = f.car := by rw [e]; exact c1
    have sn : s.num = f.num := by rw [e]; exact n1
    have sd : s.day = day := by rw [e]; exact d1
    have ho : onF fs s.car s.num s.day = some f := by rw [sc, sn, sd]; exact hv.on hf q1
    obtain ⟨J, hJ⟩ := same_of hv hc (o := s) sd sd (oper_own hc ho) ho (by rw [sd]; exact hs)
    exact ⟨s, J, hJ⟩
  · unfold spart at hs
    obtain ⟨x, hx, hs⟩ := List.mem_flatMap.1 hs
    unfold shSeg at hs
    split at hs
    · split at hs
      · rename_i h0
        simp only [List.mem_cons, List.not_mem_nil, or_false] at hs
        have h1 := sold_oper h0
        have h2 := sold_day7 h0
        rw [← hs] at h1 h2
        obtain ⟨o, ho⟩ : ∃ o, o = operF sh s := ⟨_, rfl⟩
        rw [← ho] at h1
        have od : o.day = day := by rw [ho, operF_day]; exact h2
        unfold segF at h1
        cases hon : onF fs o.car o.num o.day with
        | none => rw [hon] at h1; simp at h1
        | some f =>
          rw [hon] at h1
          simp only at h1
          cases hfd : (segsL (legF p.l f o.day)).find? (ftB o.f o.t) with
          | none => rw [hfd] at h1; simp at h1
          | some o' =>
            rw [hfd] at h1
            simp only [Prod.mk.injEq, true_and] at h1
            subst h1
            obtain ⟨J, hJ⟩ := same_of hv hc h2 od ho.symm hon (List.mem_of_find?_eq_some hfd)
            exact ⟨_, J, hJ⟩
      · cases hs
    · cases hs
end Go.Proofs.YtdpcjafkahhecaaGreatDoor

/- The law CodeshareSame. -/
namespace Go.Proofs.YtdpcjafkahhecaaGreatDoor
open Go.RowKit Go.Shelf
set_option linter.unusedSimpArgs false
set_option linter.unusedVariables false

theorem seg_box7 (w : World) (q : Sg) : ∀ j u, (encSg q)[j]? = some u → (w.alloc (.cells #[.string q.car, .int .i64 q.num, .int .i64 q.day, .string q.f, .string q.t, .int .i64 q.dep, .int .i64 q.arr] segT)).cell? ⟨w.heap.size, j, none⟩ = some u := row7 (heap_alloc_new w _)
set_option maxRecDepth 100000 in
set_option maxHeartbeats 16000000 in
theorem codeshareSame_walk (p : PV) (v : Value) (fs : List FV) (A : Option Addr) (c : Nat) (sh : List Sh) (day : Int) (w : World) (hi : Inp9 p fs sh) (hso : ∀ s ∈ sh, OkSh s) (hP : PlL w p) (hv : TblL w v fs) (hs : RowL 9 encSh9 w (.slice A sh.length c) sh) (hd0 : -9223372036854775808 ≤ day) (hd1 : day ≤ 9223372036854775807) :
    Calls Tryz.prog 7 #[encP p, v, .slice A sh.length c, .int .i64 day] w fun e w' => e = .returned (.bool true) ∧ Below w.heap.size w w' := by
  obtain ⟨A0, c0, rfl, _⟩ := id hv.row
  have hb0 := bel_alloc w (.cells #[.slice p.A p.l.length p.ca, .slice p.D p.ds.length p.cd] placesT)
  have p0 := (cells_new w #[.slice p.A p.l.length p.ca, .slice p.D p.ds.length p.cd] placesT 0).trans (show _ = some (Value.slice p.A p.l.length p.ca) from rfl)
  have p1 := (cells_new w #[.slice p.A p.l.length p.ca, .slice p.D p.ds.length p.cd] placesT 1).trans (show _ = some (Value.slice p.D p.ds.length p.cd) from rfl)
  have HP := Lib.hid (hP.more hb0)
  have HV := Lib.hid (hv.more hb0)
  have HSH := Lib.hid (hs.more hb0)
  have HI := Lib.hid hi
  have HSO := Lib.hid hso
  have HB0 := Lib.hid hb0
  clear hP hv hi hs hso
  go_enter Tryz.func7, Tryz.ntmps7
  go_upto_region 1 with fail
  have HBS := Lib.hid hb0.size
  generalize hw5 : w.alloc (.cells #[.slice p.A p.l.length p.ca, .slice p.D p.ds.length p.cd] placesT) = w5 at *
  clear hw5 hb0
  have f0 := bel_get p0
  have f1 := bel_get p1
  obtain ⟨B, hB⟩ : ∃ B, B = w.heap.size := ⟨_, rfl⟩
  rw [← hB] at f0 f1
  rw [← hB]
  clear p0 p1
  have HBX := Lib.hid hB
  clear hB
  have KW : Hid (∀ W, SW w5 W → Calls Tryz.prog 9 #[] W fun e w' => e = .returned (.bool true) ∧ SW w5 w') := Lib.hid (SW.call (fun W h => awake9_any W))
  have KR : Hid (∀ W, SW w5 W → Calls Tryz.prog 8 #[encP p, .slice A0 fs.length c0, .slice A sh.length c] W fun e w' => ∃ b : Bool, e = .returned (.bool b) ∧ (b = true → Val9 p fs sh) ∧ SW w5 w') := Lib.hid (fun W h => (right9_any p _ fs A c sh W HI.out (HP.out.more h) (HV.out.more h)).mono (by rintro e w' ⟨b, rfl, hb, hbl⟩; exact ⟨b, rfl, hb, Below.trans h (Below.mono hbl (Below.size h))⟩))
  have hS : SW w5 w5 := Below.refl _ _
  have z0 := f0 _ hS
  have z1 := f1 _ hS
  go_wp2_with (go_at_call 8; with_reducible refine (KR.out _ hS).mono ?_; rintro e w1 ⟨b, rfl, hV9, hS1⟩; refine Hid.out ?_)
  clear z0 z1 hS
  cases b with
  | false =>
    clear hV9
    refine Lib.hid ?_
    go_wp2_with (go_at_call 9; with_reducible refine (KW.out _ hS1).mono ?_; rintro e w2 ⟨rfl, hS2⟩)
    go_ret
    exact ⟨rfl, HB0.out.trans (Below.mono hS2 HB0.out.size)⟩
  | true =>
  have HV9 := Lib.hid (hV9 rfl)
  clear hV9
  have K2 : Hid (∀ W, SW w5 W → Calls Tryz.prog 12 #[encP p, .slice A0 fs.length c0, .slice A sh.length c] W fun e w' => ∃ A c, e = .returned (.slice A (shrF fs sh sh.length).length c) ∧ SW w5 w') := Lib.hid (fun W h => (rccheck_any p A0 c0 fs A c sh W (by have := HV9.out.lf; omega) (fun f hf => by have := HV9.out.legs hf; omega) (HV.out.more h) (by have := HV9.out.ls; omega) (HSH.out.more h) (fun s hs => ⟨(HSO.out s hs).pf, (HSO.out s hs).car, (HSO.out s hs).op⟩)).mono (by rintro e w' ⟨r, rfl, hO, hb⟩; obtain ⟨A', c', rfl, _⟩ := hO.rowL rtF.len; exact ⟨A', c', rfl, Below.trans h (Below.mono hb (Below.size h))⟩))
  have z0 := f0 _ hS1
  have z1 := f1 _ hS1
  refine Lib.hid ?_
  by_cases hc0 : shrF fs sh sh.length = []
  rotate_left
  · have hcl : (0 : Int) < ((shrF fs sh sh.length).length : Int) := by
      have : (shrF fs sh sh.length).length ≠ 0 := fun h => hc0 (List.eq_nil_of_length_eq_zero h)
      omega
    clear hc0
    generalize (shrF fs sh sh.length).length = n0 at *
    go_wp2_with (first
      | (go_at_call 12; with_reducible refine (K2.out _ hS1).mono ?_; rintro e w2 ⟨A2, c2, rfl, hS2⟩)
      | (go_at_call 9; with_reducible refine (KW.out _ hS2).mono ?_; rintro e w3 ⟨rfl, hS3⟩))
    go_ret
    exact ⟨rfl, HB0.out.trans (Below.mono hS3 HB0.out.size)⟩
  have K1 : Hid (∀ W, SW w5 W → Calls Tryz.prog 18 #[encP p, .slice A0 fs.length c0, .slice A sh.length c, .int .i64 day] W fun e w' => ∃ r, e = .returned r ∧ RowL 7 encSg w' r (soldL p.l fs sh day) ∧ SW w5 w') := Lib.hid (fun W h => (csold_any p A0 c0 fs A c sh day W (fun _ => HV9.out.okPl) HV9.out.okT (HP.out.more h).air (HV.out.more h) (by have := HV9.out.ls; omega) (HSH.out.more h) hd0 hd1).mono (by rintro e w' ⟨r, rfl, hO, hb⟩; exact ⟨r, rfl, hO, Below.trans h (Below.mono hb (Below.size h))⟩))
  have HSM : Hid (∀ s ∈ soldL p.l fs sh day, ∃ o J, Same9 p fs sh s day o J) := Lib.hid (fun s hs => same_sold HV9.out hc0 hs)
  have hSL := soldL_len HV9.out day
  rw [hc0] at K2
  simp only [List.length_nil] at K2
  clear hc0
  generalize soldL p.l fs sh day = S at *
  go_upto_region 4 with (first
    | (go_at_call 12; with_reducible refine (K2.out _ hS1).mono ?_; rintro e w2 ⟨A2, c2, rfl, hS2⟩; have z0 := f0 _ hS2; have z1 := f1 _ hS2)
    | (go_at_call 18; with_reducible refine (K1.out _ hS2).mono ?_; rintro e w3 ⟨r3, rfl, hF3, hS3⟩))
  obtain ⟨As, cs, rfl, _⟩ := id hF3
  have HF3 := Lib.hid hF3
  have HS3 := Lib.hid hS3
  clear z0 z1 hS1 hS2 hS3 hF3 K1 K2 KR
  have HUP : Hid (∀ W, SW w3 W → SW w5 W) := Lib.hid (fun W h => Below.trans HS3.out (Below.mono h (Below.size HS3.out)))
  have KO : Hid (∀ (q : Sg), q.day = day → ∀ W, SW w5 W → Calls Tryz.prog 15 #[.slice A sh.length c, encS7 q] W fun e w' => e = .returned (encS7 (operF sh q)) ∧ SW W w') := Lib.hid (fun q hq W h => operating_any A c sh q W (by have := HV9.out.ls; omega) (HSH.out.more h) (by rw [hq]; exact ⟨hd0, hd1⟩))
  have KC : Hid (∀ (q o : Sg) (J : List Idd), operF sh q = o → q.day = day → (∀ e I, CvR (fun f e I => PathR p.l f o e I) fs o e I → e = 0 ∧ I = J) → ∀ W, SW w5 W → Calls Tryz.prog 20 #[encP p, .slice A0 fs.length c0, .slice A sh.length c, encS7 q] W fun e w' => ∃ v, e = .returned (.tuple #[v, .int .i64 0]) ∧ RowL 4 encI w' v J ∧ SW W w') := Lib.hid (fun q o J ho hq hcv W h => by
    refine (ccover_any p _ fs A c sh q W (fun _ => HV9.out.okPl) HV9.out.okT (fun f hf => (HV9.out.legs hf).1) (HP.out.more h).air (HV.out.more h) (by have := HV9.out.ls; omega) (HSH.out.more h) (by rw [hq]; exact ⟨hd0, hd1⟩)).mono ?_
    rintro e w' ⟨v, er, I, rfl, h1, h2, hb⟩
    have h3 := h2.out
    rw [ho] at h3
    obtain ⟨rfl, rfl⟩ := hcv er I h3
    exact ⟨v, rfl, h1, hb⟩)
  have KI : Hid (∀ u1 u2 I W, RowL 4 encI W u1 I → RowL 4 encI W u2 I → I.length ≤ 1000 → SW w5 W → Calls Tryz.prog 23 #[u1, u2] W fun e w' => e = .returned (.bool true) ∧ SW W w') := Lib.hid (fun u1 u2 I W h1 h2 hn h => sameIds_any u1 u2 I W (by omega) h1 h2)
  have f0 : ∀ W, SW w3 W → _ := fun W h => f0 W (HUP.out W h)
  have f1 : ∀ W, SW w3 W → _ := fun W h => f1 W (HUP.out W h)
  clear HI HSO
  go_wp2
  go_loopw [10] (fun vi W => ∃ i : Nat, i ≤ S.length ∧ vi = .int .i64 i ∧ Hid (SW w3 W)) (fun vi _ => S.length - (intOf vi).toNat)
  case atStart => exact ⟨0, Nat.zero_le _, rfl, Lib.hid (Below.refl _ _)⟩
  case round =>
    obtain ⟨i, hi, rfl, HB⟩ := hrel
    by_cases hlt : i < S.length
    · obtain ⟨q, hq⟩ : ∃ q, S[i]? = some q := ⟨_, List.getElem?_eq_getElem hlt⟩
      obtain ⟨o, J, hJ⟩ := HSM.out q (List.mem_of_getElem? hq)
      obtain ⟨bs, os, e1, hbl, hcl⟩ := RowL.at7 (HF3.out.more HB.out) hq
      subst e1
      have i2 : (i : Int) < (S.length : Int) := by omega
      have HJ := Lib.hid hJ
      have x0 := hcl 0 _ rfl
      have x1 := hcl 1 _ rfl
      have x2 := hcl 2 _ rfl
      have x3 := hcl 3 _ rfl
      have x4 := hcl 4 _ rfl
      have x5 := hcl 5 _ rfl
      have x6 := hcl 6 _ rfl
      rw [Nat.add_zero] at x0
      have KO1 : Hid (∀ W, SW w5 W → Calls Tryz.prog 15 #[.slice A sh.length c, encS7 q] W fun e w' => e = .returned (encS7 o) ∧ SW W w') := Lib.hid (fun W h => by
        have k := KO.out q HJ.out.sd W h
        rw [HJ.out.oo.1] at k
        exact k)
      have KA := Lib.hid (KC.out q o J HJ.out.oo.1 HJ.out.sd HJ.out.cv)
      have KB := Lib.hid (KC.out o o J HJ.out.oo.2 HJ.out.od HJ.out.cv)
      have hJ0 : ((J.length : Int) == 0) = false := by
        rw [beq_eq_false_iff_ne]
        intro h
        exact HJ.out.ne (List.eq_nil_of_length_eq_zero (by omega))
      have hJl := HJ.out.len
      clear hcl hbl hq hJ
      go_upto_region 8 with (go_at_call 15; with_reducible refine (KO1.out _ (HUP.out _ HB.out)).mono ?_; rintro e w6 ⟨rfl, hb6⟩)
      have hbo := bel_alloc w6 (.cells #[.string o.car, .int .i64 o.num, .int .i64 o.day, .string o.f, .string o.t, .int .i64 o.dep, .int .i64 o.arr] segT)
      have b0 := seg_box7 w6 o 0 _ rfl
      have b1 := seg_box7 w6 o 1 _ rfl
      have b2 := seg_box7 w6 o 2 _ rfl
      have b3 := seg_box7 w6 o 3 _ rfl
      have b4 := seg_box7 w6 o 4 _ rfl
      have b5 := seg_box7 w6 o 5 _ rfl
      have b6 := seg_box7 w6 o 6 _ rfl
      have hb7 := Below.trans hb6 (Below.mono hbo (Below.size hb6))
      have y0 := bel_cell hb7 x0
      have y1 := bel_cell hb7 x1
      have y2 := bel_cell hb7 x2
      have y3 := bel_cell hb7 x3
      have y4 := bel_cell hb7 x4
      have y5 := bel_cell hb7 x5
      have y6 := bel_cell hb7 x6
      have HW7 : Hid (SW w3 (w6.alloc (.cells #[.string o.car, .int .i64 o.num, .int .i64 o.day, .string o.f, .string o.t, .int .i64 o.dep, .int .i64 o.arr] segT))) := Lib.hid (Below.trans HB.out (Below.mono hb7 (Below.size HB.out)))
      generalize w6.heap.size = bo at *
      generalize w6.alloc (.cells #[.string o.car, .int .i64 o.num, .int .i64 o.day, .string o.f, .string o.t, .int .i64 o.dep, .int .i64 o.arr] segT) = w7 at *
      clear hbo hb6 hb7 x0 x1 x2 x3 x4 x5 x6
      have m0 := bel_get y0
      have n0 := bel_get b0
      have m1 := bel_get y1
      have n1 := bel_get b1
      have m2 := bel_get y2
      have n2 := bel_get b2
      have m3 := bel_get y3
      have n3 := bel_get b3
      have m4 := bel_get y4
      have n4 := bel_get b4
      have m5 := bel_get y5
      have n5 := bel_get b5
      have m6 := bel_get y6
      have n6 := bel_get b6
      clear y0 b0 y1 b1 y2 b2 y3 b3 y4 b4 y5 b5 y6 b6
      have g0 : ∀ W, SW w7 W → _ := fun W h => f0 W (Below.trans HW7.out (Below.mono h (Below.size HW7.out)))
      have g1 : ∀ W, SW w7 W → _ := fun W h => f1 W (Below.trans HW7.out (Below.mono h (Below.size HW7.out)))
      have HU7 : Hid (∀ W, SW w7 W → SW w5 W) := Lib.hid (fun W h => HUP.out W (Below.trans HW7.out (Below.mono h (Below.size HW7.out))))
      have hS : (SW w7) _ := SW.drew w7
      refine wp_region_held_drew (S := SW w7) (by kernel_rfl) hS (fun _ => ?_)
      refine wpAnyH_take (i := 0) (v := ?vS0) rfl (by kernel_rfl) (by kernel_rfl) (by kernel_rfl) (fun _ _ _ h => h) (Or.inl ⟨by rfl, ?hyS0⟩) hS ?restS0
      case hyS0 =>
        intro w hSw
        have k0 := g0 w hSw; have k1 := g1 w hSw; have k2 := m0 w hSw; have k3 := m1 w hSw; have k4 := m2 w hSw; have k5 := m3 w hSw; have k6 := m4 w hSw; have k7 := m5 w hSw; have k8 := m6 w hSw
        first | (go_simp; done) | (go_simp; with_reducible rfl)
      try simp only [Act.put, List.setIfInBounds_toArray, List.set_cons_zero, List.set_cons_succ]
      refine wpAnyH_take (i := 1) (v := ?vS1) rfl (by kernel_rfl) (by kernel_rfl) (by kernel_rfl) (fun _ _ _ h => h) (Or.inl ⟨by rfl, ?hyS1⟩) hS ?restS1
      case hyS1 =>
        intro w hSw
        first | (go_simp; done) | (go_simp; with_reducible rfl)
      try simp only [Act.put, List.setIfInBounds_toArray, List.set_cons_zero, List.set_cons_succ]
      refine wpAnyH_take (i := 2) (v := ?vS2) rfl (by kernel_rfl) (by kernel_rfl) (by kernel_rfl) (fun _ _ _ h => h) (Or.inl ⟨by rfl, ?hyS2⟩) hS ?restS2
      case hyS2 =>
        intro w hSw
        first | (go_simp; done) | (go_simp; with_reducible rfl)
      try simp only [Act.put, List.setIfInBounds_toArray, List.set_cons_zero, List.set_cons_succ]
      refine wpAnyH_take (i := 3) (v := ?vS3) rfl (by kernel_rfl) (by kernel_rfl) (by kernel_rfl) (fun _ _ _ h => h) (Or.inl ⟨by rfl, ?hyS3⟩) hS ?restS3
      case hyS3 =>
        intro w hSw
        first | (go_simp; done) | (go_simp; with_reducible rfl)
      try simp only [Act.put, List.setIfInBounds_toArray, List.set_cons_zero, List.set_cons_succ]
      refine wpAnyH_take (i := 4) (v := ?vS4) rfl (by kernel_rfl) (by kernel_rfl) (by kernel_rfl) (fun _ _ _ h => h) (Or.inl ⟨by rfl, ?hyS4⟩) hS ?restS4
      case hyS4 =>
        intro w hSw
        first | (go_simp; done) | (go_simp; with_reducible rfl)
      try simp only [Act.put, List.setIfInBounds_toArray, List.set_cons_zero, List.set_cons_succ]
      refine wpAnyH_take (i := 5) (v := ?vS5) rfl (by kernel_rfl) (by kernel_rfl) (by kernel_rfl) (fun _ _ _ h => h) (Or.inl ⟨by rfl, ?hyS5⟩) hS ?restS5
      case hyS5 =>
        intro w hSw
        have k0 := g0 w hSw; have k1 := g1 w hSw; have k2 := m0 w hSw; have k3 := m1 w hSw; have k4 := m2 w hSw; have k5 := m3 w hSw; have k6 := m4 w hSw; have k7 := m5 w hSw; have k8 := m6 w hSw
        first | (go_simp; done) | (go_simp; with_reducible rfl)
      try simp only [Act.put, List.setIfInBounds_toArray, List.set_cons_zero, List.set_cons_succ]
      refine wpAnyH_take (i := 6) (v := ?vS6) rfl (by kernel_rfl) (by kernel_rfl) (by kernel_rfl) (fun _ _ _ h => h) (Or.inl ⟨by rfl, ?hyS6⟩) hS ?restS6
      case hyS6 =>
        intro w hSw
        have k0 := g0 w hSw; have k1 := g1 w hSw; have k2 := m0 w hSw; have k3 := m1 w hSw; have k4 := m2 w hSw; have k5 := m3 w hSw; have k6 := m4 w hSw; have k7 := m5 w hSw; have k8 := m6 w hSw
        first | (go_simp; done) | (go_simp; with_reducible rfl)
      try simp only [Act.put, List.setIfInBounds_toArray, List.set_cons_zero, List.set_cons_succ]
      refine wpAnyH_ready (rs := [7]) (by kernel_rfl) (by simp) ?_
      refine AllReadyH.cons rfl (fun K hK => ?_) AllReadyH.nil
      go_simp
      go_wp2_with ((go_at_call 20; with_reducible refine (KA.out _ (HU7.out _ hS)).mono ?_; rintro e w8 ⟨u1, rfl, hI1, hb8⟩; have hS : SW w7 w8 := Below.trans hS (Below.mono hb8 (Below.size hS))))
      refine hK.out _ _ hS (fun _ => ?_)
      clear hK K
      refine wpAnyH_take (i := 8) (v := ?vS8) rfl (by kernel_rfl) (by kernel_rfl) (by kernel_rfl) (fun _ _ _ h => h) (Or.inl ⟨by rfl, ?hyS8⟩) hS ?restS8
      case hyS8 =>
        intro w hSw
        first | (go_simp; done) | (go_simp; with_reducible rfl)
      try simp only [Act.put, List.setIfInBounds_toArray, List.set_cons_zero, List.set_cons_succ]
      refine wpAnyH_take (i := 9) (v := ?vS9) rfl (by kernel_rfl) (by kernel_rfl) (by kernel_rfl) (fun _ _ _ h => h) (Or.inl ⟨by rfl, ?hyS9⟩) hS ?restS9
      case hyS9 =>
        intro w hSw
        first | (go_simp; done) | (go_simp; with_reducible rfl)
      try simp only [Act.put, List.setIfInBounds_toArray, List.set_cons_zero, List.set_cons_succ]
      refine wpAnyH_take (i := 10) (v := ?vS10) rfl (by kernel_rfl) (by kernel_rfl) (by kernel_rfl) (fun _ _ _ h => h) (Or.inl ⟨by rfl, ?hyS10⟩) hS ?restS10
      case hyS10 =>
        intro w hSw
        first | (go_simp; done) | (go_simp; with_reducible rfl)
      try simp only [Act.put, List.setIfInBounds_toArray, List.set_cons_zero, List.set_cons_succ]
      refine wpAnyH_ready (rs := [11]) (by kernel_rfl) (by simp) ?_
      refine AllReadyH.cons rfl (fun K hK => ?_) AllReadyH.nil
      go_simp
      refine hK.out _ _ hS (fun _ => ?_)
      clear hK K
      refine wpAnyH_take (i := 12) (v := ?vS12) rfl (by kernel_rfl) (by kernel_rfl) (by kernel_rfl) (fun _ _ _ h => h) (Or.inl ⟨by rfl, ?hyS12⟩) hS ?restS12
      case hyS12 =>
        intro w hSw
        first | (go_simp; done) | (go_simp; with_reducible rfl)
      try simp only [Act.put, List.setIfInBounds_toArray, List.set_cons_zero, List.set_cons_succ]
      refine wpAnyH_done (by kernel_rfl) ?_ _
      try simp only [List.getElem_toArray, List.getElem_cons_succ, List.getElem_cons_zero, List.set_cons_zero, List.set_cons_succ]
      have z0 := g0 _ hS
      have z1 := g1 _ hS
      have x0 := n0 _ hS
      have x1 := n1 _ hS
      have x2 := n2 _ hS
      have x3 := n3 _ hS
      have x4 := n4 _ hS
      have x5 := n5 _ hS
      have x6 := n6 _ hS
      go_upto_region 10 with (go_at_call 20; with_reducible refine (KB.out _ (HU7.out _ hS)).mono ?_; rintro e w9 ⟨u2, rfl, hI2, hb9⟩)
      have hS9 : SW w7 w9 := Below.trans hS (Below.mono hb9 (Below.size hS))
      have hI1 := hI1.more hb9
      have KI1 := Lib.hid (KI.out _ _ J w9 hI1 hI2 hJl (HU7.out _ hS9))
      have HI1 := Lib.hid hI1
      obtain ⟨Aa, ca, rfl, _⟩ := id hI1
      clear z0 z1 x0 x1 x2 x3 x4 x5 x6 hS hb9 hb8 hI1 hI2 KA KB
      go_upto_region 12 with (go_at_call 23; with_reducible refine KI1.out.mono ?_; rintro e w10 ⟨rfl, hb10⟩)
      have HS10 : Hid (SW w7 w10) := Lib.hid (Below.trans hS9 (Below.mono hb10 (Below.size hS9)))
      have HI2 := Lib.hid (HI1.out.more hb10)
      clear hS9 hb10 KI1 HI1
      go_wp2
      go_loopw [16] (fun vk W => ∃ k : Nat, k ≤ J.length ∧ vk = .int .i64 k ∧ Hid (SW w10 W)) (fun vk _ => J.length - (intOf vk).toNat)
      case atStart => exact ⟨0, Nat.zero_le _, rfl, Lib.hid (Below.refl _ _)⟩
      case round =>
        obtain ⟨k, hk, rfl, HK⟩ := hrel
        by_cases hkt : k < J.length
        · obtain ⟨d, hd⟩ : ∃ d, J[k]? = some d := ⟨_, List.getElem?_eq_getElem hkt⟩
          obtain ⟨e1, e2, e3⟩ := HJ.out.ids d (List.mem_of_getElem? hd)
          obtain ⟨b1, o1, e4, hb1, hc1⟩ := RowL.at4 (HI2.out.more HK.out) hd
          subst e4
          have i3 : (k : Int) < (J.length : Int) := by omega
          have hS11 : SW w7 wr := Below.trans HS10.out (Below.mono HK.out (Below.size HS10.out))
          have y0 := hc1 0 _ rfl
          have y1 := hc1 1 _ rfl
          have y2 := hc1 2 _ rfl
          rw [Nat.add_zero] at y0
          rw [e1] at y0
          rw [e2] at y1
          rw [e3] at y2
          have x0 := n0 _ hS11
          have x1 := n1 _ hS11
          clear hc1 hb1 hd e1 e2 e3
          go_wp2
          go_quiet (fail)
          go_wp2
          go_roundw
          case rel => exact ⟨k + 1, by omega, by go_num, Lib.hid (below_drewN HK.out _)⟩
          case measure => simp [intOf]; omega
        · have i3 : ¬ (k : Int) < (J.length : Int) := by omega
          have HE : Hid (SW w3 wr) := Lib.hid (Below.trans HW7.out (Below.mono (Below.trans HS10.out (Below.mono HK.out (Below.size HS10.out))) (Below.size HW7.out)))
          go_wp2
          go_roundw
          case rel => exact ⟨i + 1, by omega, by go_num, HE⟩
          case measure => simp [intOf]; omega
    · have i2 : ¬ (i : Int) < (S.length : Int) := by omega
      have hS12 := HUP.out _ HB.out
      go_wp2_with (go_at_call 9; with_reducible refine (KW.out _ hS12).mono ?_; rintro e w13 ⟨rfl, hS13⟩)
      go_ret
      exact ⟨rfl, HB0.out.trans (Below.mono hS13 HB0.out.size)⟩
end Go.Proofs.YtdpcjafkahhecaaGreatDoor
