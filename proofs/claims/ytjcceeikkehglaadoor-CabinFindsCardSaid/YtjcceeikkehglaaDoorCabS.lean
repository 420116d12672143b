/- Walks of the laws CabinChecks and CabinLikes. -/
import Derived.Test.YtjcceeikkehglaaDoorCabR
import Derived.Deep.CutRange
import Derived.Deep.CutBlock
namespace Go.Proofs.YtjcceeikkehglaaDoor
open Go.RowKit Go.Shelf
set_option linter.unusedSimpArgs false
set_option linter.unusedVariables false

/-- what a machine's values are bound to -/
structure SzCf (f : Cf) : Prop where
  equip : f.equip.size ≤ maxLen
  name : ∀ b ∈ f.l, b.name.size ≤ maxLen
  cls : ∀ b ∈ f.l, ∀ x ∈ b.l, OkCl x
theorem SzCf.ok {f : Cf} (h : SzCf f) (hs : smallF f) : OkCf f := ⟨h.equip, hs.1, fun b hb => ⟨h.name b hb, hs.2 b hb, h.cls b hb⟩⟩
theorem ok_all {l : List Cf} (h : ∀ f ∈ l, SzCf f) (hs : SmallP l) : ∀ f ∈ l, OkCf f := fun f hf => (h f hf).ok (hs.2 f hf)
set_option maxRecDepth 100000 in
set_option maxHeartbeats 4000000 in
theorem cabinChecks_walk (A : Option Addr) (c : Nat) (l : List Cf) (w : World) (hv : CfL w (.slice A l.length c) l) (hz : ∀ f ∈ l, SzCf f) :
    Calls Tryd.prog 3 #[.slice A l.length c] w fun e w' => e = .returned (.bool true) ∧ Below w.heap.size w w' := by
  have KS := Lib.hid (fun W (h : Below w.heap.size w W) => small_any A c l W (hv.more h))
  have KA := Lib.hid awake_any
  by_cases hs : SmallP l
  · rw [small_yes hs] at KS
    have hn := hs.1
    have hok := ok_all hz hs
    have KC := Lib.hid (fun W (h : Below w.heap.size w W) => check_any A c l W (hv.more h) hn hok)
    have KR := Lib.hid (fun W (h : Below w.heap.size w W) => rcheck_any A c l W (hv.more h) hn hok)
    have HLE : Hid ((conF l l.length).length ≤ 1000000) := Lib.hid (by have := conF_le l hok l.length; omega)
    clear hs hok hz hv
    generalize conF l l.length = L at *
    have hb0 := Below.refl w.heap.size w
    go_enter Tryd.func3, Tryd.ntmps3
    go_wp2_with (first
      | (go_at_call 8; refine (KA.out _).mono ?_; rintro e wd ⟨rfl, hbd⟩)
      | (go_at_call 9; refine (sameF_any v1 v2 L _ (RowL.more hF1 hb2) hF2 HLE.out).mono ?_; rintro e wc ⟨rfl, hbc⟩)
      | (go_at_call 11; refine (KR.out _ hb1).mono ?_; rintro e wb ⟨v2, rfl, hO2, hb2⟩; have hF2 := hO2.rowL rtF.len)
      | (go_at_call 10; refine (KC.out _ hb0).mono ?_; rintro e wa ⟨v1, rfl, hO1, hb1⟩; have hF1 := hO1.rowL rtF.len)
      | (go_at_call 7; refine (KS.out _ hb0).mono ?_; rintro e w' ⟨rfl, rfl⟩))
    go_ret
    exact ⟨rfl, by
      have h1 := hb1.trans (hb2.mono hb1.size)
      have h2 := h1.trans (Below.mono hbc h1.size)
      exact h2.trans (hbd.mono h2.size)⟩
  · rw [small_no hs] at KS
    have hb0 := Below.refl w.heap.size w
    clear hs hz hv
    go_enter Tryd.func3, Tryd.ntmps3
    go_wp2_with (first
      | (go_at_call 8; refine (KA.out _).mono ?_; rintro e wd ⟨rfl, hbd⟩)
      | (go_at_call 7; refine (KS.out _ hb0).mono ?_; rintro e w' ⟨rfl, rfl⟩))
    go_ret
    exact ⟨rfl, hbd⟩

/-! ### Like -/
theorem pl_mem : ∀ (l : List Cb) (s : ByteArray), plB l s = false → ∀ b ∈ l, ∀ x ∈ b.l, codeQ s x = false
  | [], s, h, b, hb, x, hx => by cases hb
  | c :: r, s, h, b, hb, x, hx => by
    unfold plB at h
    rw [plF] at h
    split at h
    · cases h
    · rename_i h0
      have hr : plB r s = false := by
        unfold plB
        cases hp : plF r s with
        | none => rfl
        | some p => rw [hp] at h; cases h
      rcases List.mem_cons.1 hb with rfl | hb
      · rcases idxQ_find (codeQ s) b.l with ⟨_, _, h3⟩ | ⟨k, a, h1, _⟩
        · obtain ⟨j, hj, rfl⟩ := List.getElem_of_mem hx
          exact h3 j _ (List.getElem?_eq_getElem hj)
        · exfalso; omega
      · exact pl_mem r s hr b hb x hx
theorem pl_of_mem {l : List Cb} {b : Cb} {x : Cl} (hb : b ∈ l) (hx : x ∈ b.l) : plB l x.code = true := by
  cases h : plB l x.code with
  | true => rfl
  | false =>
    have := pl_mem l x.code h b hb x hx
    unfold codeQ at this
    rw [eqS_self] at this
    cases this
theorem lk_facts {la lb : List Cb} {s : ByteArray} (h : (lkR la lb s).2 = true) : plB lb (lkR la lb s).1 = true ∧ (plB lb s = true → (lkR la lb s).1 = s) := by
  unfold lkR at h ⊢
  split at h
  · rename_i h1
    rw [if_pos h1]
    split at h
    · rename_i h2
      rw [if_pos h2]
      exact ⟨h2, fun _ => rfl⟩
    · rename_i h2
      rw [if_neg h2]
      split at h
      · rename_i h3
        rw [if_pos h3]
        refine ⟨?_, fun h => absurd h h2⟩
        obtain ⟨x, hx, he⟩ := last_at (l := lkC la lb s) (n := (lkC la lb s).length - 1) (by omega)
        show plB lb (((lkC la lb s).getLast?.map Cl.code).getD noB) = true
        rw [he]
        unfold lkC at hx
        split at hx
        · rename_i b hb
          exact pl_of_mem (List.mem_of_getElem? hb) (List.mem_of_getElem? hx)
        · simp at hx
      · cases h
  · cases h
set_option maxRecDepth 100000 in
set_option maxHeartbeats 8000000 in
theorem cabinLikes_walk (f g : Cf) (s : ByteArray) (w : World) (hf : CfAt w f) (hg : CfAt w g) (zf : SzCf f) (zg : SzCf g) :
    Calls Tryd.prog 6 #[aggCf f, aggCf g, .string s] w fun e w' => e = .returned (.bool true) ∧ Below w.heap.size w w' := by
  have hbA := bel_alloc w (.cells #[.string f.equip, .slice f.A f.l.length f.c] cfT)
  have hbB := bel_alloc (w.alloc (.cells #[.string f.equip, .slice f.A f.l.length f.c] cfT)) (.cells #[.string g.equip, .slice g.A g.l.length g.c] cfT)
  have hb0 := hbA.trans (hbB.mono hbA.size)
  have p0 := bel_cell hbB ((cells_new w #[.string f.equip, .slice f.A f.l.length f.c] cfT 0).trans (show _ = some (Value.string f.equip) from rfl))
  have p1 := bel_cell hbB ((cells_new w #[.string f.equip, .slice f.A f.l.length f.c] cfT 1).trans (show _ = some (Value.slice f.A f.l.length f.c) from rfl))
  have q0 := (cells_new (w.alloc (.cells #[.string f.equip, .slice f.A f.l.length f.c] cfT)) #[.string g.equip, .slice g.A g.l.length g.c] cfT 0).trans (show _ = some (Value.string g.equip) from rfl)
  have q1 := (cells_new (w.alloc (.cells #[.string f.equip, .slice f.A f.l.length f.c] cfT)) #[.string g.equip, .slice g.A g.l.length g.c] cfT 1).trans (show _ = some (Value.slice g.A g.l.length g.c) from rfl)
  rw [World.size_alloc] at q0 q1
  obtain ⟨Z, hZ⟩ : ∃ Z, Z = w.heap.size := ⟨_, rfl⟩
  rw [← hZ] at p0 p1 q0 q1
  have HF := Lib.hid (CfAt.more hf hb0)
  have HG := Lib.hid (CfAt.more hg hb0)
  have KA := Lib.hid awake_any
  have hss : smallB [f, g] = true → smallF f ∧ smallF g := fun h => ⟨(smallB_iff.1 h).2 f (by simp), (smallB_iff.1 h).2 g (by simp)⟩
  clear hf hg
  go_enter Tryd.func6, Tryd.ntmps6
  go_upto_region 1 with fail
  rw [← hZ]
  have HB5 := Lib.hid hb0
  generalize (w.alloc (.cells #[.string f.equip, .slice f.A f.l.length f.c] cfT)).alloc (.cells #[.string g.equip, .slice g.A g.l.length g.c] cfT) = w5 at *
  clear hb0 hbA hbB hZ
  have hbL := bel_alloc w5 (.cells #[.string f.equip, .slice f.A f.l.length f.c, .string g.equip, .slice g.A g.l.length g.c] cfT)
  have KS := Lib.hid (small_any (some ⟨w5.heap.size, 0, none⟩) 2 [f, g] (w5.alloc (.cells #[.string f.equip, .slice f.A f.l.length f.c, .string g.equip, .slice g.A g.l.length g.c] cfT)) ⟨RowL.new (enc := encCf) (sz := 2) w5 [f, g] cfT (fun _ => rfl) rfl 2, fun x hx => by
    simp only [List.mem_cons, List.not_mem_nil, or_false] at hx
    rcases hx with rfl | rfl
    · exact CfAt.more HF.out hbL
    · exact CfAt.more HG.out hbL⟩)
  have HSS := Lib.hid hss
  clear hss
  cases hsm : smallB [f, g] with
  | false =>
    rw [hsm] at KS
    clear hsm
    go_wp2_with (first
      | (go_at_call 8; refine (KA.out _).mono ?_; rintro e wd ⟨rfl, hbd⟩)
      | (go_at_call 7; refine KS.out.mono ?_; rintro e w' ⟨rfl, rfl⟩))
    go_ret
    exact ⟨rfl, by
      have h1 := HB5.out.trans (hbL.mono HB5.out.size)
      exact h1.trans (hbd.mono h1.size)⟩
  | true =>
    rw [hsm] at KS
    obtain ⟨sf, sg⟩ := HSS.out hsm
    clear hsm HSS
    have HLF := Lib.hid (lk_facts (la := f.l) (lb := g.l) (s := s))
    have KL : Hid (∀ W, SW w5 W → Calls Tryd.prog 21 #[.agg #[.string f.equip, .slice f.A f.l.length f.c], .agg #[.string g.equip, .slice g.A g.l.length g.c], .string s] W fun e w' => e = .returned (.tuple #[.string (lkR f.l g.l s).1, .bool (lkR f.l g.l s).2]) ∧ SW w5 w') := Lib.hid (fun W h => (like_any f.equip g.equip f.A g.A f.c g.c f.l g.l s W (CfAt.more HF.out h) (CfAt.more HG.out h) sf.1 sg.1 sf.2 sg.2).mono (by rintro e w' ⟨rfl, hb⟩; exact ⟨rfl, Below.trans h (Below.mono hb h.size)⟩))
    have KR : Hid (∀ W, SW w5 W → Calls Tryd.prog 22 #[.agg #[.string f.equip, .slice f.A f.l.length f.c], .agg #[.string g.equip, .slice g.A g.l.length g.c], .string s] W fun e w' => e = .returned (.tuple #[.string (lkR f.l g.l s).1, .bool (lkR f.l g.l s).2]) ∧ SW w5 w') := Lib.hid (fun W h => (rlike_any f.equip g.equip f.A g.A f.c g.c f.l g.l s W (CfAt.more HF.out h) (CfAt.more HG.out h) sf.1 sg.1 sf.2 sg.2).mono (by rintro e w' ⟨rfl, hb⟩; exact ⟨rfl, Below.trans h (Below.mono hb h.size)⟩))
    have KP : Hid (∀ q W, SW w5 W → Calls Tryd.prog 15 #[.agg #[.string g.equip, .slice g.A g.l.length g.c], .string q] W fun e w' => e = .returned (.tuple #[.int .i64 (plI g.l q), .int .i64 (plK g.l q), .bool (plB g.l q)]) ∧ SW w5 w') := Lib.hid (fun q W h => (place_any g.equip g.A g.c g.l q W (CfAt.more HG.out h) sg.1 sg.2).mono (by rintro e w' ⟨rfl, hb⟩; exact ⟨rfl, Below.trans h (Below.mono hb h.size)⟩))
    have F0 := Lib.hid (fun W (h : SW w5 W) => bel_get p0 _ h)
    have F1 := Lib.hid (fun W (h : SW w5 W) => bel_get p1 _ h)
    have G0 := Lib.hid (fun W (h : SW w5 W) => bel_get q0 _ h)
    have G1 := Lib.hid (fun W (h : SW w5 W) => bel_get q1 _ h)
    go_upto_if 21 with (go_at_call 7; refine KS.out.mono ?_; rintro e w' ⟨rfl, rfl⟩)
    clear p0 p1 q0 q1
    have f0 := F0.out _ hbL
    have f1 := F1.out _ hbL
    have g0 := G0.out _ hbL
    have g1 := G1.out _ hbL
    go_upto_region 4 with (go_at_call 21; refine (KL.out _ hbL).mono ?_; rintro e w6 ⟨rfl, h6⟩)
    have f0 := F0.out _ h6
    have f1 := F1.out _ h6
    have g0 := G0.out _ h6
    have g1 := G1.out _ h6
    go_upto_region 5 with (go_at_call 22; refine (KR.out _ h6).mono ?_; rintro e w7 ⟨rfl, h7⟩)
    have e1 : ((lkR f.l g.l s).1.toList == (lkR f.l g.l s).1.toList) = true := by simp
    have e2 : ((lkR f.l g.l s).2 == (lkR f.l g.l s).2) = true := by simp
    have g0 := G0.out _ h7
    have g1 := G1.out _ h7
    clear f0 f1 h6
    go_upto_region 8 with (go_at_call 15; refine (KP.out _ _ h7).mono ?_; rintro e w8 ⟨rfl, h8⟩)
    have g0 := G0.out _ h8
    have g1 := G1.out _ h8
    clear h7 e1 e2
    obtain ⟨R, hR⟩ : ∃ R, R = lkR f.l g.l s := ⟨_, rfl⟩
    rw [← hR] at HLF ⊢
    have H5 : Hid (SW w5 w8) := Lib.hid h8
    clear hR
    go_upto_region 9 with (go_at_call 15; refine (KP.out _ _ h8).mono ?_; rintro e w9 ⟨rfl, h9⟩)
    have H9 : Hid (Below w.heap.size w w9) := Lib.hid (HB5.out.trans (Below.mono h9 HB5.out.size))
    clear g0 g1 h8 h9
    obtain ⟨r1, r2⟩ := R
    dsimp only at HLF ⊢
    cases r2 with
    | false =>
      go_wp2_with (go_at_call 8; refine (KA.out _).mono ?_; rintro e wd ⟨rfl, hbd⟩)
      go_ret
      exact ⟨rfl, H9.out.trans (hbd.mono H9.out.size)⟩
    | true =>
      obtain ⟨hp1, hp2⟩ := HLF.out rfl
      rw [hp1]
      cases hin : plB g.l s with
      | false =>
        clear hp1 hp2 HLF
        go_wp2_with (go_at_call 8; refine (KA.out _).mono ?_; rintro e wd ⟨rfl, hbd⟩)
        go_ret
        exact ⟨rfl, H9.out.trans (hbd.mono H9.out.size)⟩
      | true =>
        have hrs := hp2 hin
        have e3 : (r1.toList == s.toList) = true := by rw [hrs]; simp
        clear hp1 hp2 HLF hrs
        go_wp2_with (go_at_call 8; refine (KA.out _).mono ?_; rintro e wd ⟨rfl, hbd⟩)
        go_ret
        exact ⟨rfl, H9.out.trans (hbd.mono H9.out.size)⟩
end Go.Proofs.YtjcceeikkehglaaDoor
