/- The reference's Curve: the greatest that is left, one by one. -/
import Derived.Test.YtjogjlfgfohihaaBidD
namespace Go.Proofs.Ytjogjlfgfohihaa
open Go.RowKit Go.Shelf
set_option linter.unusedSimpArgs false
set_option linter.unusedVariables false

theorem ROwn.row {B : Nat} {w : World} {v : Value} {l : List Int} (h : ROwn 3 1 encI B w v l) (hne : l ≠ []) : ∃ g cap, v = .slice (some ⟨g, 0, none⟩) l.length cap ∧ B ≤ g ∧ Row w g l := by
  obtain ⟨g, cap, e, hg, hlt⟩ := h.own.form (by cases l with
    | nil => exact absurd rfl hne
    | cons a r => simp [cellsR, encI])
  have hr := h.rowL rowI.len
  rw [e] at hr
  have hgb : ∃ cs t, w.heap[g]? = some (.cells cs t (0, 0)) := by
    rcases h.own.2 with ⟨h1, _⟩ | ⟨g', cap', cur, e', _, hg', _⟩
    · rw [e] at h1; cases h1
    · rw [e] at e'
      cases e'
      exact ⟨_, _, hg'⟩
  obtain ⟨cs, t, hgb⟩ := hgb
  refine ⟨g, cap, e, hg, ⟨fun j hj => ?_, fun j hj => ?_, hlt⟩⟩
  · obtain ⟨bb, o, e, hc⟩ := int_at hr (List.getElem?_eq_getElem hj)
    cases e
    rw [Nat.zero_add] at hc
    exact hc
  · unfold World.frozen?
    simp only [hgb]
    simp
theorem own_any {B : Nat} {w : World} {v : Value} {l : List Int} (h : ROwn 3 1 encI B w v l) : ∃ A c, v = .slice A l.length c := by
  obtain ⟨A, c, e, _⟩ := h.rowL rowI.len
  exact ⟨A, c, e⟩
/-- the counts that are left lie in the block g -/
structure LeftR (W : World) (B : Nat) (Av : Option Addr) (g : Nat) (cs : List Int) : Prop where
  at' : cs ≠ [] → Av = some ⟨g, 0, none⟩ ∧ Row W g cs
  lo : B ≤ g
theorem LeftR.of {W : World} {B : Nat} {v : Value} {cs : List Int} (h : ROwn 3 1 encI B W v cs) : ∃ Av c g, v = .slice Av cs.length c ∧ LeftR W B Av g cs ∧ (cs ≠ [] → g < W.heap.size) := by
  by_cases h0 : cs = []
  · obtain ⟨A, c, e⟩ := own_any h
    exact ⟨A, c, B, e, ⟨fun h1 => absurd h0 h1, Nat.le_refl _⟩, fun h1 => absurd h0 h1⟩
  · obtain ⟨g, cap, e, hg, hr⟩ := h.row h0
    exact ⟨_, cap, g, e, ⟨fun _ => ⟨rfl, hr⟩, hg⟩, fun _ => hr.lt⟩
theorem LeftR.more {W W' : World} {B : Nat} {Av : Option Addr} {g : Nat} {cs : List Int} (h : LeftR W B Av g cs) (hb : Below W.heap.size W W') : LeftR W' B Av g cs :=
  ⟨fun h1 => ⟨(h.at' h1).1, (h.at' h1).2.more hb⟩, h.lo⟩
theorem Row.but {W W' : World} {g : Nat} {l : List Int} {X : Nat → Prop} (h : Row W g l) (hb : But W W' X) (hx : ¬ X g) : Row W' g l :=
  ⟨fun j hj => (World.cell?_of_block (hb.block g h.lt hx)).trans (h.cell j hj), fun j hj => by
    have h1 := h.froz j hj
    unfold World.frozen? at h1 ⊢
    rw [hb.block g h.lt hx]; exact h1, Nat.lt_of_lt_of_le h.lt hb.size⟩
/-- the prices under way: taken m, what is left in the block g, the prices in v -/
structure RefS (l : List Dm) (w W : World) (Av : Option Addr) (g m : Nat) (cs a : List Int) (v : Value) : Prop where
  take : TakeR l m cs a
  big : ∀ x ∈ cs, x ≤ 9223372036854775807
  left : LeftR W w.heap.size Av g cs
  own : ROwn 3 1 encI w.heap.size W v a
  ne : cs ≠ [] → v.ownBlock ≠ some g
  bel : Below w.heap.size w W
theorem RefS.app {l : List Dm} {w W W' : World} {Av : Option Addr} {g m m' : Nat} {cs a a' : List Int} {v v' : Value} (h : RefS l w W Av g m cs a v) (ht : TakeR l m' cs a') (ho : ROwn 3 1 encI w.heap.size W' v' a') (hc : Chg W W' v v') : RefS l w W' Av g m' cs a' v' where
  take := ht
  big := h.big
  left := ⟨fun h1 => ⟨(h.left.at' h1).1, (h.left.at' h1).2.but hc.but (h.ne h1)⟩, h.left.lo⟩
  own := ho
  ne h1 h2 := by
    rcases hc.own g h2 with h3 | h3
    · exact h.ne h1 h3
    · have := (h.left.at' h1).2.lt; omega
  bel := h.bel.trans (hc.below h.own)
theorem RefS.set {l : List Dm} {w W : World} {Av : Option Addr} {g m m' : Nat} {cs a a' : List Int} {v : Value} {i : Nat} {x : Int} (h : RefS l w W Av g m cs a v) (hne : cs ≠ []) (hi : i < cs.length) (hx : x ≤ 9223372036854775807) :
    (∀ y ∈ cs.set i x, y ≤ 9223372036854775807) ∧ LeftR (W.setCell ⟨g, i, none⟩ (.int .i64 x)) w.heap.size Av g (cs.set i x) ∧ ROwn 3 1 encI w.heap.size (W.setCell ⟨g, i, none⟩ (.int .i64 x)) v a ∧ (cs.set i x ≠ [] → v.ownBlock ≠ some g) ∧ Below w.heap.size w (W.setCell ⟨g, i, none⟩ (.int .i64 x)) := by
  refine ⟨fun y hy => ?_, ⟨fun _ => ⟨(h.left.at' hne).1, (h.left.at' hne).2.set i hi x⟩, h.left.lo⟩, ?_, fun _ => h.ne hne, h.bel.setCell (p := ⟨g, i, none⟩) h.left.lo _⟩
  · rcases List.mem_or_eq_of_mem_set hy with hy | hy
    · exact h.big y hy
    · omega
  · exact h.own.grown (But.setCell W g i _).grownBy (.inl (fun e => h.ne hne e.symm))
theorem BestR.zero (l : List Dm) (cs : List Int) : BestR l cs 0 (-1) := .inl ⟨rfl, fun i c h => absurd h (Nat.not_lt_zero _)⟩
theorem BestR.skip {l : List Dm} {cs : List Int} {k : Nat} {b c : Int} (h : BestR l cs k b) (hc : cs[k]? = some c) (h0 : ¬ 0 < c) : BestR l cs (k + 1) b := by
  rcases h with ⟨rfl, h⟩ | ⟨i, d, c', rfl, hi, hd, hc', h1, h2⟩
  · refine .inl ⟨rfl, fun i x hi hx => ?_⟩
    by_cases e : i = k
    · subst e; rw [hc] at hx; cases hx; omega
    · exact h i x (by omega) hx
  · refine .inr ⟨i, d, c', rfl, by omega, hd, hc', h1, fun j d' x hj hd' hx hx0 => ?_⟩
    by_cases e : j = k
    · subst e; rw [hc] at hx; cases hx; omega
    · exact h2 j d' x (by omega) hd' hx hx0
theorem BestR.first {l : List Dm} {cs : List Int} {k : Nat} {c : Int} {d : Dm} (h : ∀ (i : Nat) (c : Int), i < k → cs[i]? = some c → c ≤ 0) (hd : l[k]? = some d) (hc : cs[k]? = some c) (h0 : 0 < c) : BestR l cs (k + 1) k :=
  .inr ⟨k, d, c, rfl, by omega, hd, hc, h0, fun j d' x hj hd' hx hx0 => by
    by_cases e : j = k
    · subst e; rw [hd] at hd'; cases hd'; exact Int.le_refl _
    · have := h j x (by omega) hx; omega⟩
theorem BestR.more {l : List Dm} {cs : List Int} {k i : Nat} {c c' : Int} {d d' : Dm} (hi : i < k) (hdi : l[i]? = some d') (hci : cs[i]? = some c') (h1 : 0 < c') (h2 : ∀ (j : Nat) (e : Dm) (x : Int), j < k → l[j]? = some e → cs[j]? = some x → 0 < x → e.v ≤ d'.v)
    (hd : l[k]? = some d) (hc : cs[k]? = some c) (h0 : 0 < c) : (d'.v < d.v → BestR l cs (k + 1) k) ∧ (¬ d'.v < d.v → BestR l cs (k + 1) i) := by
  refine ⟨fun hv => .inr ⟨k, d, c, rfl, by omega, hd, hc, h0, fun j e x hj he hx hx0 => ?_⟩, fun hv => .inr ⟨i, d', c', rfl, by omega, hdi, hci, h1, fun j e x hj he hx hx0 => ?_⟩⟩
  · by_cases q : j = k
    · subst q; rw [hd] at he; cases he; exact Int.le_refl _
    · have := h2 j e x (by omega) he hx hx0; omega
  · by_cases q : j = k
    · subst q; rw [hd] at he; cases he; omega
    · exact h2 j e x (by omega) he hx hx0
theorem map_c (l : List Dm) (k : Nat) (d : Dm) (h : l[k]? = some d) : (l.take (k + 1)).map (·.c) = (l.take k).map (·.c) ++ [d.c] := by
  rw [List.take_add_one, h]; simp
set_option maxRecDepth 100000 in
set_option maxHeartbeats 16000000 in
theorem rcurve_any (A : Option Addr) (c : Nat) (l : List Dm) (n : Int) (w : World) (hl : l.length ≤ 1000) (hbig : ∀ d ∈ l, d.c ≤ 9223372036854775807) (hL : DmL w (.slice A l.length c) l) :
    Calls Try.prog 10 #[.slice A l.length c, .int .i64 n] w fun e w' => ∃ A c a, e = .returned (.tuple #[.slice A a.length c, .int .i64 (curE l n)]) ∧ IntR w' (.slice A a.length c) a ∧ (curE l n = 0 → CurveR l n.toNat a) ∧ (curE l n ≠ 0 → a = []) ∧ Below w.heap.size w w' := by
  by_cases h0 : n < 0
  · have HR : Hid (curE l n = 2) := Lib.hid (by unfold curE; rw [if_pos (.inl h0)])
    clear hL
    go_enter Try.func10, Try.ntmps10
    go_wp2
    go_ret2
    exact ⟨none, 0, [], by rw [HR.out]; rfl, ⟨none, 0, rfl, .inl rfl⟩, fun h => by rw [HR.out] at h; omega, fun _ => rfl, Below.refl _ _⟩
  by_cases h1 : 999 < n
  · have HR : Hid (curE l n = 2) := Lib.hid (by unfold curE; rw [if_pos (.inr h1)])
    clear hL
    go_enter Try.func10, Try.ntmps10
    go_wp2
    go_ret2
    exact ⟨none, 0, [], by rw [HR.out]; rfl, ⟨none, 0, rfl, .inl rfl⟩, fun h => by rw [HR.out] at h; omega, fun _ => rfl, Below.refl _ _⟩
  have HE := Lib.hid (curE_in (l := l) h0 h1)
  have HL := Lib.hid hL
  obtain ⟨m, rfl⟩ : ∃ m : Nat, n = (m : Int) := ⟨n.toNat, by omega⟩
  have hm : m ≤ 999 := by omega
  have HBIG := Lib.hid hbig
  clear hL h0 h1 hbig
  go_enter Try.func10, Try.ntmps10
  go_wp2
  go_loopw [6, 7] (fun v6 vi wr => ∃ (k : Nat) (v : Value), k ≤ l.length ∧ vi = .int .i64 k ∧ v6 = v ∧ Hid (dmsE (l.take k) = 0 ∧ ROwn 3 1 encI w.heap.size wr v ((l.take k).map (·.c)) ∧ Below w.heap.size w wr)) (fun _ vi _ => l.length - (intOf vi).toNat)
  case atStart => exact ⟨0, _, Nat.zero_le _, rfl, rfl, Lib.hid ⟨rfl, ROwn.nil (Nat.le_refl _), Below.refl _ _⟩⟩
  case round =>
    obtain ⟨k, v, hk, rfl, rfl, HK⟩ := hrel
    by_cases hlt : k < l.length
    · obtain ⟨d, hka⟩ : ∃ d, l[k]? = some d := ⟨_, List.getElem?_eq_getElem hlt⟩
      obtain ⟨b, off, e1, hgl, ha⟩ := row_get (HL.out.more HK.out.2.2) hka
      cases e1
      have i2 : (k : Int) < (l.length : Int) := by omega
      have z0 := ha 0 _ rfl
      have z1 := ha 1 _ rfl
      rw [Nat.add_zero] at z0
      have HS := Lib.hid (dmsE_step hka HK.out.1)
      have HM := Lib.hid (map_c l k d hka)
      have HD : Hid (dmE d = if d.v < 0 ∨ 1099511627776 < d.v then 11 else if d.c < 0 then 2 else 0) := Lib.hid rfl
      clear ha hgl hka
      obtain ⟨dv, dc⟩ := d
      dsimp only at *
      have HX : Hid (∀ x, dmE ⟨dv, dc⟩ = x → x ≠ 0 → curE l (m : Int) = x) := Lib.hid (fun x hx h0 => HE.out.trans ((HS.out.2 (by rw [hx]; exact h0)).trans hx))
      by_cases h0 : dv < 0
      · have HR : Hid (curE l (m : Int) = 11) := Lib.hid (HX.out 11 (by rw [HD.out, if_pos (.inl h0)]) (by omega))
        clear HS HD HX
        go_wp2
        go_ret2
        exact ⟨none, 0, [], by rw [HR.out]; rfl, ⟨none, 0, rfl, .inl rfl⟩, fun h => by rw [HR.out] at h; omega, fun _ => rfl, HK.out.2.2⟩
      by_cases h1 : 1099511627776 < dv
      · have HR : Hid (curE l (m : Int) = 11) := Lib.hid (HX.out 11 (by rw [HD.out, if_pos (.inr h1)]) (by omega))
        clear HS HD HX
        go_wp2
        go_ret2
        exact ⟨none, 0, [], by rw [HR.out]; rfl, ⟨none, 0, rfl, .inl rfl⟩, fun h => by rw [HR.out] at h; omega, fun _ => rfl, HK.out.2.2⟩
      by_cases h2 : dc < 0
      · have HR : Hid (curE l (m : Int) = 2) := Lib.hid (HX.out 2 (by rw [HD.out, if_neg (by omega), if_pos h2]) (by omega))
        clear HS HD HX
        go_wp2
        go_ret2
        exact ⟨none, 0, [], by rw [HR.out]; rfl, ⟨none, 0, rfl, .inl rfl⟩, fun h => by rw [HR.out] at h; omega, fun _ => rfl, HK.out.2.2⟩
      have HN : Hid (dmsE (l.take (k + 1)) = 0) := Lib.hid (HS.out.1.trans (by rw [HD.out, if_neg (by omega), if_neg h2]))
      have HLm : Hid (((l.take k).map (·.c)).length ≤ 100000000) := Lib.hid (by simp; omega)
      have hO := HK.out.2.1
      clear HS HD HX
      go_wp2_with (at_builtin; refine wpList_rapp rowI rfl _ _ rfl hO rfl (bel_alloc _ _) _ dc _ rfl (cs := #[.int .i64 dc]) rfl (heap_alloc_new _ _) HLm.out ?_; intro v1 w1 hO1 hC1)
      have HY : Hid (dmsE (l.take (k + 1)) = 0 ∧ ROwn 3 1 encI w.heap.size w1 v1 ((l.take (k + 1)).map (·.c)) ∧ Below w.heap.size w w1) := Lib.hid ⟨HN.out, by rw [HM.out]; exact hO1, HK.out.2.2.trans (hC1.below hO)⟩
      clear hO hO1 hC1
      go_roundw
      case rel => exact ⟨k + 1, _, by omega, by go_num, rfl, HY⟩
      case measure => simp [intOf]; omega
    · have HZ : Hid (dmsE l = 0) := Lib.hid (dmsE_all HK.out.1 (by omega))
      have HC : Hid (curE l (m : Int) = 0) := Lib.hid (HE.out.trans HZ.out)
      have HMM := Lib.hid (dmsE_zero HZ.out)
      have i2 : ¬ (k : Int) < (l.length : Int) := by omega
      have hO := HK.out.2.1
      rw [List.take_of_length_le (by omega)] at hO
      obtain ⟨Av, cv, g, rfl, hLF, hg⟩ := LeftR.of hO
      rw [List.length_map]
      have HS0 : Hid (RefS l w wr Av g 0 (l.map (·.c)) [] (.slice none 0 0)) := Lib.hid ⟨TakeR.zero l HMM.out, fun x hx => by
        obtain ⟨d, hd, rfl⟩ := List.mem_map.1 hx
        exact HBIG.out d hd, hLF, ROwn.nil HK.out.2.2.size, fun _ h => (by cases h), HK.out.2.2⟩
      clear hO hLF hg HK hk hlt HE
      have HLN : Hid (l.length ≤ 1000) := Lib.hid hl
      go_wp2
      go_loopg [8] m (fun kx v8 W => ∃ (v : Value) (j : Nat) (cs a : List Int), v = v8 ∧ j + kx = m ∧ Hid (RefS l w W Av g j cs a v)) 
      case atStart => exact ⟨_, 0, _, _, rfl, by omega, HS0⟩
      case round =>
        obtain ⟨v, j, cs, a, rfl, hkx, HK⟩ := hrel
        clear HS0
        have HKX := Lib.hid hkx
        obtain ⟨A8, c8, rfl⟩ := own_any HK.out.own
        have HLJ : Hid (a.length = j) := Lib.hid HK.out.take.len
        have HLC : Hid (cs.length = l.length) := Lib.hid HK.out.take.lenc
        by_cases hjm : j < m
        · have i3 : ((a.length : Nat) : Int) < (m : Int) := by rw [HLJ.out]; omega
          have HJM := Lib.hid hjm
          clear hkx hjm
          go_wp2
          go_loopw [9, 10] (fun v9 vi W3 => ∃ (i : Nat) (b : Int), i ≤ l.length ∧ vi = .int .i64 i ∧ v9 = .int .i64 b ∧ Hid (BestR l cs i b ∧ Below wr.heap.size wr W3)) (fun _ vi _ => l.length - (intOf vi).toNat)
          case atStart => exact ⟨0, -1, Nat.zero_le _, rfl, rfl, Lib.hid ⟨BestR.zero l cs, Below.refl _ _⟩⟩
          case round =>
            obtain ⟨i, b, hi, rfl, rfl, HB⟩ := hrel
            have HBW : Hid (Below w.heap.size w wr) := Lib.hid (HK.out.bel.trans (HB.out.2.mono HK.out.bel.size))
            by_cases hil : i < l.length
            · have i4 : (i : Int) < (l.length : Int) := by omega
              obtain ⟨d, hd⟩ : ∃ d, l[i]? = some d := ⟨_, List.getElem?_eq_getElem hil⟩
              obtain ⟨cc, hc⟩ : ∃ c, cs[i]? = some c := ⟨_, List.getElem?_eq_getElem (by rw [HLC.out]; exact hil)⟩
              have hne : cs ≠ [] := by rintro rfl; simp at hc
              obtain ⟨eAv, hRow⟩ := (HK.out.left.more HB.out.2).at' hne
              have d0 : wr.cell? ⟨g, i, none⟩ = some (.int .i64 cc) := by
                rw [hRow.cell i (by rw [HLC.out]; exact hil)]
                obtain ⟨h1, h2⟩ := List.getElem?_eq_some_iff.1 hc
                rw [h2]
              obtain ⟨b1, o1, e1, hgl, ha⟩ := row_get (HL.out.more HBW.out) hd
              cases e1
              have z0 := ha 0 _ rfl
              rw [Nat.add_zero] at z0
              have HD := Lib.hid hd
              have HC2 := Lib.hid hc
              clear ha hgl hd hc hne hRow
              subst eAv
              by_cases hc0 : 0 < cc
              · have H0 := Lib.hid hc0
                have g0 : decide (0 < cc) = true := decide_eq_true hc0
                rcases HB.out.1 with ⟨rfl, hbb⟩ | ⟨i', d', c', rfl, hi', hd', hc', h1', h2'⟩
                · have HN := Lib.hid (BestR.first hbb HD.out HC2.out hc0)
                  clear hbb hc0
                  go_wp2
                  go_quiet (fail)
                  go_wp2
                  go_roundw
                  case rel => exact ⟨i + 1, i, by omega, by go_num, by go_num, Lib.hid ⟨HN.out, below_drewN HB.out.2 _⟩⟩
                  case measure => simp [intOf]; omega
                · have HN := Lib.hid (BestR.more hi' hd' hc' h1' h2' HD.out HC2.out hc0)
                  obtain ⟨b2, o2, e2, hgl2, ha2⟩ := row_get (HL.out.more HBW.out) hd'
                  cases e2
                  have z2 := ha2 0 _ rfl
                  rw [Nat.add_zero] at z2
                  have i5 : (i' : Int) < (l.length : Int) := by omega
                  have g1 : decide ((i' : Int) < 0) = false := by simp
                  clear ha2 hgl2 hd' hc' h1' h2' hc0
                  by_cases hv : d'.v < d.v
                  · have HN2 := Lib.hid (HN.out.1 hv)
                    have g2 : decide (d'.v < d.v) = true := decide_eq_true hv
                    clear hv HN
                    go_wp2
                    go_quiet (fail)
                    go_wp2
                    go_roundw
                    case rel => exact ⟨i + 1, i, by omega, by go_num, by go_num, Lib.hid ⟨HN2.out, below_drewN HB.out.2 _⟩⟩
                    case measure => simp [intOf]; omega
                  · have HN2 := Lib.hid (HN.out.2 hv)
                    have g2 : decide (d'.v < d.v) = false := decide_eq_false hv
                    clear hv HN
                    go_wp2
                    go_quiet (fail)
                    go_wp2
                    go_roundw
                    case rel => exact ⟨i + 1, i', by omega, by go_num, by go_num, Lib.hid ⟨HN2.out, below_drewN HB.out.2 _⟩⟩
                    case measure => simp [intOf]; omega
              · have HN := Lib.hid (HB.out.1.skip HC2.out hc0)
                have g0 : decide (0 < cc) = false := decide_eq_false hc0
                clear hc0
                go_wp2
                go_quiet (fail)
                go_wp2
                go_roundw
                case rel => exact ⟨i + 1, b, by omega, by go_num, by go_num, Lib.hid ⟨HN.out, below_drewN HB.out.2 _⟩⟩
                case measure => simp [intOf]; omega
            · have i4 : ¬ (i : Int) < (l.length : Int) := by omega
              have HLm : Hid (a.length ≤ 100000000) := Lib.hid (by rw [HLJ.out]; have := HJM.out; omega)
              have HW : Hid (RefS l w wr Av g j cs a (.slice A8 a.length c8)) := Lib.hid ⟨HK.out.take, HK.out.big, HK.out.left.more HB.out.2, HK.out.own.more HB.out.2, HK.out.ne, HBW.out⟩
              rcases HB.out.1 with ⟨rfl, hbb⟩ | ⟨i', d', c', rfl, hi', hd', hc', h1', h2'⟩
              · have HT : Hid (TakeR l (j + 1) cs (a ++ [0])) := Lib.hid (HK.out.take.none (fun i' c' h1 h2 => hbb i' c' (by omega) h2))
                have hO := HW.out.own
                clear hbb
                go_wp2_with (at_builtin; refine wpList_rapp rowI rfl _ _ rfl hO rfl (bel_alloc _ _) _ (0 : Int) _ rfl (cs := #[.int .i64 0]) rfl (heap_alloc_new _ _) HLm.out ?_; intro v1 w1 hO1 hC1)
                have HY : Hid (RefS l w w1 Av g (j + 1) cs (a ++ [0]) v1) := Lib.hid (HW.out.app HT.out hO1 hC1)
                clear hO hO1 hC1
                go_roundg (m - (j + 1))
                case measure => have := HKX.out; have := HJM.out; omega
                case rel => exact ⟨_, j + 1, cs, _, rfl, by have := HJM.out; omega, HY⟩
              · have hne : cs ≠ [] := by rintro rfl; simp at hc'
                have hcl := (List.getElem?_eq_some_iff.1 hc').1
                obtain ⟨eAv, hRow⟩ := HW.out.left.at' hne
                have d0 : wr.cell? ⟨g, i', none⟩ = some (.int .i64 c') := by
                  rw [hRow.cell i' hcl]
                  obtain ⟨h1, h2⟩ := List.getElem?_eq_some_iff.1 hc'
                  rw [h2]
                have d1 := hRow.froz i' hcl
                have hcb : c' ≤ 9223372036854775807 := HW.out.big c' (List.mem_of_getElem? hc')
                obtain ⟨s1, s2, s3, s4, s5⟩ := HW.out.set (m' := j + 1) (a' := a) hne hcl (x := c' - 1) (by omega)
                have HS1 := Lib.hid s2
                have HS3 := Lib.hid s3
                have HT : Hid (TakeR l (j + 1) (cs.set i' (c' - 1)) (a ++ [d'.v])) := Lib.hid (HK.out.take.some hd' hc' h1' (HMM.out d' (List.mem_of_getElem? hd')).1 (fun k d2 c2 h1 h2 h3 h4 => h2' k d2 c2 (by omega) h2 h3 h4))
                have HNX : Hid (∀ w1 v1, ROwn 3 1 encI w.heap.size w1 v1 (a ++ [d'.v]) → Chg (wr.setCell ⟨g, i', none⟩ (.int .i64 (c' - 1))) w1 (.slice A8 a.length c8) v1 → RefS l w w1 Av g (j + 1) (cs.set i' (c' - 1)) (a ++ [d'.v]) v1) := Lib.hid (fun w1 v1 h1 h2 =>
                  { take := HT.out
                    big := s1
                    left := ⟨fun h3 => ⟨(s2.at' h3).1, (s2.at' h3).2.but h2.but (s4 h3)⟩, s2.lo⟩
                    own := h1
                    ne := fun h3 h4 => by
                      rcases h2.own g h4 with h5 | h5
                      · exact s4 h3 h5
                      · have := (s2.at' h3).2.lt; omega
                    bel := s5.trans (h2.below s3) })
                obtain ⟨b2, o2, e2, hgl2, ha2⟩ := row_get (HL.out.more s5) hd'
                cases e2
                have z2 := ha2 0 _ rfl
                rw [Nat.add_zero] at z2
                have i5 : (i' : Int) < (l.length : Int) := by omega
                have hO := HS3.out
                clear ha2 hgl2 hd' hc' h2' hne s1 s2 s3 s4 s5 hRow
                subst eAv
                go_wp2_with (at_builtin; refine wpList_rapp rowI rfl _ _ rfl hO rfl (bel_alloc _ _) _ d'.v _ rfl (cs := #[.int .i64 d'.v]) rfl (by rw [show wr.heap.size = (wr.setCell ⟨g, i', none⟩ (.int .i64 (c' - 1))).heap.size by simp]; exact heap_alloc_new _ _) HLm.out ?_; intro v1 w1 hO1 hC1)
                have HY := Lib.hid (HNX.out w1 v1 hO1 hC1)
                clear hO hO1 hC1
                go_roundg (m - (j + 1))
                case measure => have := HKX.out; have := HJM.out; omega
                case rel => exact ⟨_, j + 1, _, _, rfl, by have := HJM.out; omega, HY⟩
        · have i3 : ¬ ((a.length : Nat) : Int) < (m : Int) := by rw [HLJ.out]; omega
          have HJ : Hid (j = m) := Lib.hid (by omega)
          go_wp2
          go_ret2
          refine ⟨A8, c8, a, by rw [HC.out]; rfl, HK.out.own.rowL rowI.len, fun _ => by rw [← HJ.out]; exact HK.out.take.done, fun h => absurd HC.out h, HK.out.bel⟩
end Go.Proofs.Ytjogjlfgfohihaa
