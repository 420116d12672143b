/- Words and walks that the laws below ask: ShrP, ShrT. -/
import Derived.Test.YtdpcjafkahhecaaGreatDoorPk7
import Derived.Test.YtdpcjafkahhecaaGreatDoorPk17
/- A flight that On tells, in a block of its own. -/
namespace Go.Proofs.YtdpcjafkahhecaaGreatDoor
open Go.RowKit Go.Shelf Go.Maps
set_option linter.unusedSimpArgs false
set_option linter.unusedVariables false
theorem store_blk {w : World} {k : Nat} {cs X : Array Value} {t : TypeId} (h : w.heap[k]? = some (.cells cs t (0, 0))) (hs : X.size = cs.size) (h1 : ∀ v ∈ X.toList, v.oneCell' = true) : ∃ w', (storeCells ⟨k, 0, none⟩ X.toList 0).run Tryz.prog w = .ok () w' ∧ w'.heap[k]? = some (.cells X t (0, 0)) ∧ But w w' (fun j => j = k) := by
  have h2 := run_storeCells_at (P := Tryz.prog) k 0 t X.toList 0 cs w h (by simp [hs]) h1
  have e : (cs.toList.take (0 + 0) ++ X.toList ++ cs.toList.drop (0 + 0 + X.toList.length)).toArray = X := by
    have : cs.toList.drop (0 + 0 + X.toList.length) = [] := by simp [hs]
    rw [this]
    simp
  rw [e] at h2
  refine ⟨_, h2, setRow_heap w k cs X t (0, 0) h, ⟨rfl, rfl, rfl, by simp [World.setRow], fun j hj hne => setRow_other w k j X hne⟩⟩
structure FliAt (w : World) (N : Nat) (f : FV) (A : Option Addr) (c : Nat) : Prop where
  c0 : w.cell? ⟨N, 0, none⟩ = some (.string f.car)
  c1 : w.cell? ⟨N, 1, none⟩ = some (.int .i64 f.num)
  c2 : w.cell? ⟨N, 2, none⟩ = some (.int .i64 f.pf)
  c3 : w.cell? ⟨N, 3, none⟩ = some (.int .i64 f.pt)
  c4 : w.cell? ⟨N, 4, none⟩ = some (.int .i64 f.pd)
  c5 : w.cell? ⟨N, 5, none⟩ = some (.slice A f.lg.length c)
theorem fliAt_row {w : World} {N : Nat} {f : FV} {A : Option Addr} {c : Nat} {X : Array Value} (h : w.heap[N]? = some (.cells X fliT (0, 0))) (hX : Hid (X = fliX f A c)) : FliAt w N f A c := by
  have e := hX.out
  subst e
  exact ⟨(cell_of_row w _ 0 _ _ (0, 0) h).trans (show _ = some _ from rfl), (cell_of_row w _ 1 _ _ (0, 0) h).trans (show _ = some _ from rfl), (cell_of_row w _ 2 _ _ (0, 0) h).trans (show _ = some _ from rfl), (cell_of_row w _ 3 _ _ (0, 0) h).trans (show _ = some _ from rfl), (cell_of_row w _ 4 _ _ (0, 0) h).trans (show _ = some _ from rfl), (cell_of_row w _ 5 _ _ (0, 0) h).trans (show _ = some _ from rfl)⟩
theorem legl_but {w w' : World} {N n c : Nat} {A : Option Addr} {l : List Lg} (hL : LegL w (.slice A n c) l) (h : w.heap[N]? = some (.cells #[.string noB, .int .i64 0, .int .i64 0, .int .i64 0, .int .i64 0, .slice none 0 0] fliT (0, 0))) (hB : But w w' (fun j => j = N)) : LegL w' (.slice A n c) l := by
  by_cases hne : l = []
  · subst hne
    obtain ⟨A', c', e, _⟩ := hL
    cases e
    exact ⟨A, c, rfl, .inl rfl⟩
  refine RowL.but2 hL hB (fun b o e he => ?_)
  obtain ⟨b', o', e2, _, hc⟩ := RowL.at0 hL hne
  rw [e] at e2
  cases e2
  obtain ⟨x, r, rfl⟩ : ∃ x r, l = x :: r := by cases l with | nil => exact absurd rfl hne | cons x r => exact ⟨x, r, rfl⟩
  have h0 := hc 0 x 0 _ rfl rfl
  have h1 := hc 0 x 1 _ rfl rfl
  have hbN : b = N := he
  subst hbN
  rw [cell_of_row w _ _ _ _ (0, 0) h] at h0 h1
  simp only [Nat.zero_mul, Nat.add_zero] at h0 h1
  match o, h0, h1 with
  | 0, h0, h1 => simp at h1
  | 1, h0, h1 => simp at h0
  | 2, h0, h1 => simp at h0
  | 3, h0, h1 => simp at h0
  | 4, h0, h1 => simp at h0
  | 5, h0, h1 => simp at h0
  | o + 6, h0, h1 => simp at h0
end Go.Proofs.YtdpcjafkahhecaaGreatDoor

/- Walk of the reference's days. -/
namespace Go.Proofs.YtdpcjafkahhecaaGreatDoor
open Go.RowKit Go.Shelf Go.Maps
set_option linter.unusedSimpArgs false
set_option linter.unusedVariables false

theorem err_zero {p : Per.Per} {d : Int} (h : Per.hasQ p d = true) : Per.errQ p = 0 := Per.errQ_ok ((Per.hasQ_iff p d).1 h).1
/-- what the reference asks of an earlier share -/
def smB (y s : Sh) : Bool := (y.car.toList == s.car.toList) && ((y.num == s.num) && (Per.errQ (y.pf, y.pt, y.pd) == 0))
theorem soS_sm (L : List Sh) (s : Sh) (d : Int) : soS L (s.car, s.num) d = L.any fun y => smB y s && Per.hasQ (y.pf, y.pt, y.pd) d := by
  unfold soS smB
  congr 1
  funext y
  rw [ba_list]
  have e := Per.daysQ_mem (y.pf, y.pt, y.pd) d
  cases hq : Per.hasQ (y.pf, y.pt, y.pd) d
  · have : ¬ d ∈ Per.daysQ (y.pf, y.pt, y.pd) := fun h => by rw [e, hq] at h; cases h
    simp [this]
  · have : d ∈ Per.daysQ (y.pf, y.pt, y.pd) := by rw [e]; exact hq
    rw [err_zero hq]
    simp only [this, decide_true, Bool.and_true, beq_self_eq_true]
    rw [Bool.eq_iff_iff]
    simp only [decide_eq_true_eq, Bool.and_eq_true, Prod.mk.injEq, beq_iff_eq]
    constructor
    · rintro ⟨h1, h2⟩; exact ⟨h1.symm, h2.symm⟩
    · rintro ⟨h1, h2⟩; exact ⟨h1.symm, h2.symm⟩
set_option maxRecDepth 100000 in
set_option maxHeartbeats 16000000 in
theorem rdays9_any (A0 : Option Addr) (c0 : Nat) (fs : List FV) (A : Option Addr) (c : Nat) (sh : List Sh) (i : Nat) (s : Sh) (w : World) (hfl : fs.length ≤ 1000) (hfg : ∀ f ∈ fs, f.lg.length ≤ 1000) (hv : TblL w (.slice A0 fs.length c0) fs) (hl : sh.length ≤ 50) (hs : RowL 9 encSh9 w (.slice A sh.length c) sh) (hi : sh[i]? = some s) (hpf : -9223372036854775808 ≤ s.pf ∧ s.pf ≤ 9223372036854775807) :
    Calls Tryz.prog 68 #[.slice A0 fs.length c0, .slice A sh.length c, .int .i64 (i : Int)] w fun e w' => ∃ v, e = .returned v ∧ EOwn w.heap.size w' v (okE [wh ((Per.daysQ (s.pf, s.pt, s.pd)).any (nonD fs s)) 7, wh ((Per.daysQ (s.pf, s.pt, s.pd)).any (offD fs s)) 15, wh ((Per.daysQ (s.pf, s.pt, s.pd)).any (ownB fs (soS (sh.take i)) s)) 6]) ∧ Below w.heap.size w w' := by
  have hil := (List.getElem?_eq_some_iff.1 hi).1
  obtain ⟨b, o, e1, hbl, hc⟩ := RowL.at9 hs hi
  cases e1
  have d0 := hc 0 _ rfl
  have d1 := hc 1 _ rfl
  have d2 := hc 2 _ rfl
  have d3 := hc 3 _ rfl
  have d4 := hc 4 _ rfl
  have d5 := hc 5 _ rfl
  have d6 := hc 6 _ rfl
  have d7 := hc 7 _ rfl
  have d8 := hc 8 _ rfl
  rw [Nat.add_zero] at d0
  have hb0 := bel_alloc w (.cells #[.string s.car, .int .i64 s.num, .int .i64 s.pf, .int .i64 s.pt, .int .i64 s.pd, .string s.op, .int .i64 s.am, .string s.f, .string s.t] shT)
  have n0 := (cells_new w #[.string s.car, .int .i64 s.num, .int .i64 s.pf, .int .i64 s.pt, .int .i64 s.pd, .string s.op, .int .i64 s.am, .string s.f, .string s.t] shT 0).trans (show _ = some (Value.string s.car) from rfl)
  have n1 := (cells_new w #[.string s.car, .int .i64 s.num, .int .i64 s.pf, .int .i64 s.pt, .int .i64 s.pd, .string s.op, .int .i64 s.am, .string s.f, .string s.t] shT 1).trans (show _ = some (Value.int .i64 s.num) from rfl)
  have n2 := (cells_new w #[.string s.car, .int .i64 s.num, .int .i64 s.pf, .int .i64 s.pt, .int .i64 s.pd, .string s.op, .int .i64 s.am, .string s.f, .string s.t] shT 2).trans (show _ = some (Value.int .i64 s.pf) from rfl)
  have n3 := (cells_new w #[.string s.car, .int .i64 s.num, .int .i64 s.pf, .int .i64 s.pt, .int .i64 s.pd, .string s.op, .int .i64 s.am, .string s.f, .string s.t] shT 3).trans (show _ = some (Value.int .i64 s.pt) from rfl)
  have n4 := (cells_new w #[.string s.car, .int .i64 s.num, .int .i64 s.pf, .int .i64 s.pt, .int .i64 s.pd, .string s.op, .int .i64 s.am, .string s.f, .string s.t] shT 4).trans (show _ = some (Value.int .i64 s.pd) from rfl)
  have n5 := (cells_new w #[.string s.car, .int .i64 s.num, .int .i64 s.pf, .int .i64 s.pt, .int .i64 s.pd, .string s.op, .int .i64 s.am, .string s.f, .string s.t] shT 5).trans (show _ = some (Value.string s.op) from rfl)
  have n6 := (cells_new w #[.string s.car, .int .i64 s.num, .int .i64 s.pf, .int .i64 s.pt, .int .i64 s.pd, .string s.op, .int .i64 s.am, .string s.f, .string s.t] shT 6).trans (show _ = some (Value.int .i64 s.am) from rfl)
  have n7 := (cells_new w #[.string s.car, .int .i64 s.num, .int .i64 s.pf, .int .i64 s.pt, .int .i64 s.pd, .string s.op, .int .i64 s.am, .string s.f, .string s.t] shT 7).trans (show _ = some (Value.string s.f) from rfl)
  have n8 := (cells_new w #[.string s.car, .int .i64 s.num, .int .i64 s.pf, .int .i64 s.pt, .int .i64 s.pd, .string s.op, .int .i64 s.am, .string s.f, .string s.t] shT 8).trans (show _ = some (Value.string s.t) from rfl)
  have i1 : (i : Int) < (sh.length : Int) := by omega
  have HB0 := Lib.hid hb0
  have HV := Lib.hid (hv.more hb0)
  have HS := Lib.hid (hs.more hb0)
  have HFG := Lib.hid hfg
  have HIL := Lib.hid hil
  obtain ⟨D, hD⟩ : ∃ D, D = Per.daysQ (s.pf, s.pt, s.pd) := ⟨_, rfl⟩
  have hDl : D.length ≤ 800 := by rw [hD]; exact Per.daysQ_len _
  have HBD : Hid (∀ d ∈ D, 0 ≤ d ∧ d < 36525) := Lib.hid (by rw [hD]; exact fun d => days_bd)
  have KD : Hid (∀ W, Calls Tryz.prog 94 #[.agg #[.int .i64 s.pf, .int .i64 s.pt, .int .i64 s.pd]] W fun e w' => ∃ v, e = .returned v ∧ Per.IntL w' v D ∧ Below W.heap.size W w') := Lib.hid (fun W => by rw [hD]; exact Per.rdays_any s.pf s.pt s.pd W hpf.1 hpf.2)
  rw [← hD]
  obtain ⟨N, hN⟩ : ∃ N, N = w.heap.size := ⟨_, rfl⟩
  have hNl : N < (w.alloc (.cells #[.string s.car, .int .i64 s.num, .int .i64 s.pf, .int .i64 s.pt, .int .i64 s.pd, .string s.op, .int .i64 s.am, .string s.f, .string s.t] shT)).heap.size := by rw [hN]; simp
  rw [← hN] at n0 n1 n2 n3 n4 n5 n6 n7 n8
  have HN := Lib.hid hN
  clear hv hs hfg hc hi hD
  go_enter Tryz.func68, Tryz.ntmps68
  go_upto_region 3 with fail
  try rw [← hN]
  generalize hw5 : (w.alloc (.cells #[.string s.car, .int .i64 s.num, .int .i64 s.pf, .int .i64 s.pt, .int .i64 s.pd, .string s.op, .int .i64 s.am, .string s.f, .string s.t] shT)) = w5 at *
  clear hw5 hb0 hbl hN d0 d1 d2 d3 d4 d5 d6 d7 d8
  have F0 := Lib.hid (bel_get n0)
  have F1 := Lib.hid (bel_get n1)
  have F2 := Lib.hid (bel_get n2)
  have F3 := Lib.hid (bel_get n3)
  have F4 := Lib.hid (bel_get n4)
  have F5 := Lib.hid (bel_get n5)
  have F6 := Lib.hid (bel_get n6)
  have F7 := Lib.hid (bel_get n7)
  have F8 := Lib.hid (bel_get n8)
  go_wp2_with (go_at_call 94; refine (KD.out _).mono ?_; rintro e w7 ⟨v7, rfl, hI, hbd⟩; obtain ⟨A7, c7, rfl, _⟩ := id hI)
  have HI := Lib.hid hI
  have HS7 : Hid (SW w5 w7) := Lib.hid hbd
  clear n0 n1 n2 n3 n4 n5 n6 n7 n8 hI hbd KD
  go_loopg [9, 10, 11, 13] D.length (fun kx v9 v10 v11 vi wr => ∃ (k : Nat) (bn bl bt : Bool), k + kx = D.length ∧ v9 = .bool bn ∧ v10 = .bool bl ∧ v11 = .bool bt ∧ vi = .int .i64 k ∧ Hid (bn = (D.take k).any (nonD fs s) ∧ bl = (D.take k).any (offD fs s) ∧ bt = (D.take k).any (ownB fs (soS (sh.take i)) s) ∧ SW w7 wr))
  case atStart => exact ⟨0, false, false, false, by omega, rfl, rfl, rfl, rfl, Lib.hid ⟨rfl, rfl, rfl, Below.refl _ _⟩⟩
  case round =>
    obtain ⟨k, bn, bl, bt, hkx, rfl, rfl, rfl, rfl, HK⟩ := hrel
    have HKX := Lib.hid hkx
    have hk : k ≤ D.length := by omega
    clear hkx
    by_cases hlt : k < D.length
    · obtain ⟨d, hd⟩ : ∃ d, D[k]? = some d := ⟨_, List.getElem?_eq_getElem hlt⟩
      have hdm := List.mem_of_getElem? hd
      have hdb := HBD.out d hdm
      have i2 : (k : Int) < (D.length : Int) := by omega
      obtain ⟨b2, o2, rfl, hb2, hc2⟩ := IntL.at1 HI.out hlt
      have z0 := bel_get (bel_cell HK.out.2.2.2 ((hc2 k hlt).trans (congrArg (fun x => some (Value.int .i64 x)) (List.getElem?_eq_some_iff.1 hd).2)))
      have HT1 := Lib.hid (any_takeB (U := nonD fs s) hd)
      have HT2 := Lib.hid (any_takeB (U := offD fs s) hd)
      have HT3 := Lib.hid (any_takeB (U := ownB fs (soS (sh.take i)) s) hd)
      have HSr : Hid (SW w5 wr) := Lib.hid (Below.trans HS7.out (Below.mono HK.out.2.2.2 HS7.out.size))
      have HSk : Hid (SW w7 wr) := Lib.hid HK.out.2.2.2
      obtain ⟨g, hg⟩ : ∃ g, g = (onF fs s.op s.am d).getD fliZ := ⟨_, rfl⟩
      obtain ⟨q, hq⟩ : ∃ q, q = (onF fs s.op s.am d).isSome := ⟨_, rfl⟩
      obtain ⟨ow, how⟩ : ∃ q, q = (onF fs s.car s.num d).isSome := ⟨_, rfl⟩
      obtain ⟨ld, hld⟩ : ∃ ld, ld = lead s.f s.t false g.lg := ⟨_, rfl⟩
      have HN1 : Hid (nonD fs s d = !q) := Lib.hid (by unfold nonD; rw [opD_on, hq]; cases onF fs s.op s.am d <;> rfl)
      have HN2 : Hid (offD fs s d = (q && !ld)) := Lib.hid (by unfold offD; rw [opD_on, hq, hld, hg]; cases onF fs s.op s.am d <;> rfl)
      have HN3 : Hid (ownB fs (soS (sh.take i)) s d = (ow || (sh.take i).any fun y => smB y s && Per.hasQ (y.pf, y.pt, y.pd) d)) := Lib.hid (by unfold ownB; rw [opD_on, how, soS_sm])
      have hgl : g.lg.length ≤ 1000 := by
        rw [hg]
        cases hon : onF fs s.op s.am d with
        | none => simp [fliZ]
        | some f => exact HFG.out f (List.mem_of_find?_eq_some hon)
      have KN : Hid (∀ W, SW wr W → Calls Tryz.prog 47 #[.slice A0 fs.length c0, .string s.op, .int .i64 s.am, .int .i64 d] W (OnX g q W)) := Lib.hid (fun W h => by rw [hg, hq]; exact ron_x (.slice A0 fs.length c0) fs s.op s.am d W (HV.out.more (Below.trans HSr.out (Below.mono h HSr.out.size))) hfl HFG.out (by omega) (by omega))
      have KM : Hid (∀ W, SW wr W → Calls Tryz.prog 47 #[.slice A0 fs.length c0, .string s.car, .int .i64 s.num, .int .i64 d] W (OnX ((onF fs s.car s.num d).getD fliZ) ow W)) := Lib.hid (fun W h => by rw [how]; exact ron_x (.slice A0 fs.length c0) fs s.car s.num d W (HV.out.more (Below.trans HSr.out (Below.mono h HSr.out.size))) hfl HFG.out (by omega) (by omega))
      have KL : Hid (∀ (A9 : Option Addr) (c9 : Nat) W, LegL W (.slice A9 g.lg.length c9) g.lg → Calls Tryz.prog 107 #[.agg #[.string g.car, .int .i64 g.num, .int .i64 g.pf, .int .i64 g.pt, .int .i64 g.pd, .slice A9 g.lg.length c9], .string s.f, .string s.t] W fun e w' => e = .returned (.bool ld) ∧ Below W.heap.size W w') := Lib.hid (fun A9 c9 W h => by rw [hld]; exact rleads_of g.car g.num g.pf g.pt g.pd A9 c9 g.lg s.f s.t W hgl h)
      have y0 : ∀ W, SW wr W → _ := fun W h => F0.out W (Below.trans HSr.out (Below.mono h HSr.out.size))
      have y1 : ∀ W, SW wr W → _ := fun W h => F1.out W (Below.trans HSr.out (Below.mono h HSr.out.size))
      have y2 : ∀ W, SW wr W → _ := fun W h => F2.out W (Below.trans HSr.out (Below.mono h HSr.out.size))
      have y3 : ∀ W, SW wr W → _ := fun W h => F3.out W (Below.trans HSr.out (Below.mono h HSr.out.size))
      have y4 : ∀ W, SW wr W → _ := fun W h => F4.out W (Below.trans HSr.out (Below.mono h HSr.out.size))
      have y5 : ∀ W, SW wr W → _ := fun W h => F5.out W (Below.trans HSr.out (Below.mono h HSr.out.size))
      have y6 : ∀ W, SW wr W → _ := fun W h => F6.out W (Below.trans HSr.out (Below.mono h HSr.out.size))
      have y7 : ∀ W, SW wr W → _ := fun W h => F7.out W (Below.trans HSr.out (Below.mono h HSr.out.size))
      have y8 : ∀ W, SW wr W → _ := fun W h => F8.out W (Below.trans HSr.out (Below.mono h HSr.out.size))
      have i3 : (k : Int) < (D.length : Int) := i2
      clear hc2 hd hdm hg hq how hld hgl
      have HSZ0 : Hid (wr.heap.size ≤ wr.heap.size) := Lib.hid (Nat.le_refl _)
      go_upto_region 7 with fail
      go_cut [14, 15] from 35 to 121 (fun v14 v15 wx => ∃ (N9 : Nat) (A9 : Option Addr) (c9 : Nat), v14 = .pointer (some ⟨N9, 0, none⟩) ∧ v15 = .bool q ∧ Hid (FliAt wx N9 g A9 c9 ∧ LegL wx (.slice A9 g.lg.length c9) g.lg ∧ SW wr wx))
      case first =>
        have hS : (SW wr) _ := SW.drew _
        refine wp_region_held_drew (S := SW wr) (by kernel_rfl) hS (fun _ => ?_)
        refine wpAnyH_take (i := 0) (v := ?vO0) rfl (by kernel_rfl) (by kernel_rfl) (by kernel_rfl) (fun _ _ _ h => h) (Or.inl ⟨by rfl, ?hyO0⟩) hS ?restO0
        case hyO0 =>
          intro w hSw
          first | (go_simp; done) | (go_simp; with_reducible rfl)
        try simp only [Act.put, List.setIfInBounds_toArray, List.set_cons_zero, List.set_cons_succ]
        refine wpAnyH_take (i := 1) (v := ?vO1) rfl (by kernel_rfl) (by kernel_rfl) (by kernel_rfl) (fun _ _ _ h => h) (Or.inl ⟨by rfl, ?hyO1⟩) hS ?restO1
        case hyO1 =>
          intro w hSw
          first | (go_simp; done) | (go_simp; with_reducible rfl)
        try simp only [Act.put, List.setIfInBounds_toArray, List.set_cons_zero, List.set_cons_succ]
        refine wpAnyH_take (i := 2) (v := ?vO2) rfl (by kernel_rfl) (by kernel_rfl) (by kernel_rfl) (fun _ _ _ h => h) (Or.inl ⟨by rfl, ?hyO2⟩) hS ?restO2
        case hyO2 =>
          intro w hSw
          have k0 := y5 w hSw
          first | (go_simp; done) | (go_simp; with_reducible rfl)
        try simp only [Act.put, List.setIfInBounds_toArray, List.set_cons_zero, List.set_cons_succ]
        refine wpAnyH_take (i := 3) (v := ?vO3) rfl (by kernel_rfl) (by kernel_rfl) (by kernel_rfl) (fun _ _ _ h => h) (Or.inl ⟨by rfl, ?hyO3⟩) hS ?restO3
        case hyO3 =>
          intro w hSw
          first | (go_simp; done) | (go_simp; with_reducible rfl)
        try simp only [Act.put, List.setIfInBounds_toArray, List.set_cons_zero, List.set_cons_succ]
        refine wpAnyH_take (i := 4) (v := ?vO4) rfl (by kernel_rfl) (by kernel_rfl) (by kernel_rfl) (fun _ _ _ h => h) (Or.inl ⟨by rfl, ?hyO4⟩) hS ?restO4
        case hyO4 =>
          intro w hSw
          have k0 := y6 w hSw
          first | (go_simp; done) | (go_simp; with_reducible rfl)
        try simp only [Act.put, List.setIfInBounds_toArray, List.set_cons_zero, List.set_cons_succ]
        refine wpAnyH_take (i := 5) (v := ?vO5) rfl (by kernel_rfl) (by kernel_rfl) (by kernel_rfl) (fun _ _ _ h => h) (Or.inl ⟨by rfl, ?hyO5⟩) hS ?restO5
        case hyO5 =>
          intro w hSw
          first | (go_simp; done) | (go_simp; with_reducible rfl)
        try simp only [Act.put, List.setIfInBounds_toArray, List.set_cons_zero, List.set_cons_succ]
        refine wpAnyH_take (i := 6) (v := ?vO6) rfl (by kernel_rfl) (by kernel_rfl) (by kernel_rfl) (fun _ _ _ h => h) (Or.inl ⟨by rfl, ?hyO6⟩) hS ?restO6
        case hyO6 =>
          intro w hSw
          first | (go_simp; done) | (go_simp; with_reducible rfl)
        try simp only [Act.put, List.setIfInBounds_toArray, List.set_cons_zero, List.set_cons_succ]
        refine wpAnyH_take (i := 7) (v := ?vO7) rfl (by kernel_rfl) (by kernel_rfl) (by kernel_rfl) (fun _ _ _ h => h) (Or.inl ⟨by rfl, ?hyO7⟩) hS ?restO7
        case hyO7 =>
          intro w hSw
          first | (go_simp; done) | (go_simp; with_reducible rfl)
        try simp only [Act.put, List.setIfInBounds_toArray, List.set_cons_zero, List.set_cons_succ]
        refine wpAnyH_take (i := 8) (v := ?vO8) rfl (by kernel_rfl) (by kernel_rfl) (by kernel_rfl) (fun _ _ _ h => h) (Or.inl ⟨by rfl, ?hyO8⟩) hS ?restO8
        case hyO8 =>
          intro w hSw
          have k0 := z0 w hSw
          first | (go_simp; done) | (go_simp; with_reducible rfl)
        try simp only [Act.put, List.setIfInBounds_toArray, List.set_cons_zero, List.set_cons_succ]
        refine wpAnyH_ready (rs := [9, 13]) (by kernel_rfl) (by simp) ?_
        refine AllReadyH.cons rfl (fun K hK => ?_) (AllReadyH.cons rfl (fun K hK => ?_) AllReadyH.nil)
        · go_simp
          go_wp2_with ((go_at_call 47; refine (KN.out _ hS).mono ?_; rintro e w9 ⟨X1, A9, c9, rfl, hX1, hL1, hb9⟩; have hsz1 : X1.size = 6 := (by rw [hX1.out]; rfl); have hS9 : SW wr w9 := Below.trans hS (Below.mono hb9 hS.size); have hS := hS9; have hst1 := store_fli hX1 w9))
          refine hK.out _ _ hS (fun _ => ?_)
          clear hK K
          refine wpAnyH_take (i := 10) (v := ?vOa10) rfl (by kernel_rfl) (by kernel_rfl) (by kernel_rfl) (fun _ _ _ h => h) (Or.inl ⟨by rfl, ?hyOa10⟩) hS ?restOa10
          case hyOa10 =>
            intro w hSw
            first | (go_simp; done) | (go_simp; with_reducible rfl)
          try simp only [Act.put, List.setIfInBounds_toArray, List.set_cons_zero, List.set_cons_succ]
          refine wpAnyH_take (i := 11) (v := ?vOa11) rfl (by kernel_rfl) (by kernel_rfl) (by kernel_rfl) (fun _ _ _ h => h) (Or.inl ⟨by rfl, ?hyOa11⟩) hS ?restOa11
          case hyOa11 =>
            intro w hSw
            first | (go_simp; done) | (go_simp; with_reducible rfl)
          try simp only [Act.put, List.setIfInBounds_toArray, List.set_cons_zero, List.set_cons_succ]
          refine wpAnyH_take (i := 12) (v := ?vOa12) rfl (by kernel_rfl) (by kernel_rfl) (by kernel_rfl) (fun _ _ _ h => h) (Or.inl ⟨by rfl, ?hyOa12⟩) hS ?restOa12
          case hyOa12 =>
            intro w hSw
            first | (go_simp; done) | (go_simp; with_reducible rfl)
          try simp only [Act.put, List.setIfInBounds_toArray, List.set_cons_zero, List.set_cons_succ]
          refine wpAnyH_ready (rs := [13]) (by kernel_rfl) (by simp) ?_
          refine AllReadyH.cons rfl (fun K hK => ?_) AllReadyH.nil
          go_simp
          have hSp := hS
          have hS := Below.trans hSp (Below.mono (bel_alloc _ (.cells #[.string noB, .int .i64 0, .int .i64 0, .int .i64 0, .int .i64 0, .slice none 0 0] fliT)) hSp.size)
          refine hK.out _ _ hS (fun _ => ?_)
          clear hK K
          refine wpAnyH_ready (rs := [14]) (by kernel_rfl) (by simp) ?_
          refine AllReadyH.cons rfl (fun K hK => ?_) AllReadyH.nil
          go_simp
          have hS : SW wr (w9.alloc (.cells X1 fliT)) := Below.trans hS9 (Below.mono (bel_alloc w9 _) hS9.size)
          refine hK.out _ _ hS (fun _ => ?_)
          clear hK K
          refine wpAnyH_take (i := 15) (v := ?vOa15) rfl (by kernel_rfl) (by kernel_rfl) (by kernel_rfl) (fun _ _ _ h => h) (Or.inl ⟨by rfl, ?hyOa15⟩) hS ?restOa15
          case hyOa15 =>
            intro w hSw
            first | (go_simp; done) | (go_simp; with_reducible rfl)
          try simp only [Act.put, List.setIfInBounds_toArray, List.set_cons_zero, List.set_cons_succ]
          refine wpAnyH_done (by kernel_rfl) ?_ _
          simp only [List.getElem_toArray, List.getElem_cons_succ, List.getElem_cons_zero, List.set_cons_zero, List.set_cons_succ]
          try simp only [List.setIfInBounds_toArray, List.set_cons_zero, List.set_cons_succ]
          go_wp2_with fail
          go_meet
          exact ⟨_, A9, c9, rfl, rfl, Lib.hid ⟨fliAt_row (heap_alloc_new w9 (.cells X1 fliT)) hX1, hL1.more (bel_alloc w9 _), hS⟩⟩
        · go_simp
          have hSp := hS
          have hN0 := heap_alloc_new wr.drew (.cells #[.string noB, .int .i64 0, .int .i64 0, .int .i64 0, .int .i64 0, .slice none 0 0] fliT)
          have hS := Below.trans hSp (Below.mono (bel_alloc _ (.cells #[.string noB, .int .i64 0, .int .i64 0, .int .i64 0, .int .i64 0, .slice none 0 0] fliT)) hSp.size)
          refine hK.out _ _ hS (fun _ => ?_)
          clear hK K
          refine wpAnyH_ready (rs := [9]) (by kernel_rfl) (by simp) ?_
          refine AllReadyH.cons rfl (fun K hK => ?_) AllReadyH.nil
          go_simp
          go_wp2_with ((go_at_call 47; refine (KN.out _ hS).mono ?_; rintro e w9 ⟨X1, A9, c9, rfl, hX1, hL1, hb9⟩; have hsz1 : X1.size = 6 := (by rw [hX1.out]; rfl); have hS9 : SW wr w9 := Below.trans hS (Below.mono hb9 hS.size); have hS := hS9; obtain ⟨wS, hst0, hxS, hbS⟩ := store_blk (X := X1) ((hb9.block _ (lt_of_cell2 hN0)).trans hN0) hsz1 (by rw [hX1.out]; simp [Value.oneCell']); have hst1 : (storeCells ⟨wr.heap.size, 0, none⟩ X1.toList 0).run Tryz.prog w9 = .ok () wS := hst0))
          refine hK.out _ _ hS (fun _ => ?_)
          clear hK K
          refine wpAnyH_take (i := 10) (v := ?vOb10) rfl (by kernel_rfl) (by kernel_rfl) (by kernel_rfl) (fun _ _ _ h => h) (Or.inl ⟨by rfl, ?hyOb10⟩) hS ?restOb10
          case hyOb10 =>
            intro w hSw
            first | (go_simp; done) | (go_simp; with_reducible rfl)
          try simp only [Act.put, List.setIfInBounds_toArray, List.set_cons_zero, List.set_cons_succ]
          refine wpAnyH_take (i := 11) (v := ?vOb11) rfl (by kernel_rfl) (by kernel_rfl) (by kernel_rfl) (fun _ _ _ h => h) (Or.inl ⟨by rfl, ?hyOb11⟩) hS ?restOb11
          case hyOb11 =>
            intro w hSw
            first | (go_simp; done) | (go_simp; with_reducible rfl)
          try simp only [Act.put, List.setIfInBounds_toArray, List.set_cons_zero, List.set_cons_succ]
          refine wpAnyH_take (i := 12) (v := ?vOb12) rfl (by kernel_rfl) (by kernel_rfl) (by kernel_rfl) (fun _ _ _ h => h) (Or.inl ⟨by rfl, ?hyOb12⟩) hS ?restOb12
          case hyOb12 =>
            intro w hSw
            first | (go_simp; done) | (go_simp; with_reducible rfl)
          try simp only [Act.put, List.setIfInBounds_toArray, List.set_cons_zero, List.set_cons_succ]
          refine wpAnyH_ready (rs := [14]) (by kernel_rfl) (by simp) ?_
          refine AllReadyH.cons rfl (fun K hK => ?_) AllReadyH.nil
          go_simp
          have hS : SW wr wS := Below.trans hS9 (hbS.below hS9.size (fun q hq he => by have h1 : q = wr.heap.size := he; have h2 := HSZ0.out; omega))
          refine hK.out _ _ hS (fun _ => ?_)
          clear hK K
          refine wpAnyH_take (i := 15) (v := ?vOb15) rfl (by kernel_rfl) (by kernel_rfl) (by kernel_rfl) (fun _ _ _ h => h) (Or.inl ⟨by rfl, ?hyOb15⟩) hS ?restOb15
          case hyOb15 =>
            intro w hSw
            first | (go_simp; done) | (go_simp; with_reducible rfl)
          try simp only [Act.put, List.setIfInBounds_toArray, List.set_cons_zero, List.set_cons_succ]
          refine wpAnyH_done (by kernel_rfl) ?_ _
          simp only [List.getElem_toArray, List.getElem_cons_succ, List.getElem_cons_zero, List.set_cons_zero, List.set_cons_succ]
          try simp only [List.setIfInBounds_toArray, List.set_cons_zero, List.set_cons_succ]
          go_wp2_with fail
          go_meet
          exact ⟨_, A9, c9, rfl, rfl, Lib.hid ⟨fliAt_row hxS hX1, legl_but hL1 ((hb9.block _ (lt_of_cell2 hN0)).trans hN0) hbS, hS⟩⟩
      case rest =>
        obtain ⟨N9, A9, c9, rfl, rfl, HC⟩ := hcut
        have hSc : SW wr wc := HC.out.2.2
        clear KN HSZ0
        go_upto_region 8 with fail
        go_cut [9] from 47 to 121 (fun v9 wx => v9 = .bool (bn || !q) ∧ wx = wc)
        case first =>
          cases bn <;> cases q
          all_goals go_wp2
          all_goals go_meet
          all_goals exact ⟨rfl, rfl⟩
        case rest =>
        obtain ⟨rfl, hwc⟩ := hcut
        obtain rfl := hwc
        obtain ⟨n2, hn2⟩ : ∃ b, b = (bn || !q) := ⟨_, rfl⟩
        rw [← hn2]
        have HN9 := Lib.hid hn2
        clear hn2
        go_upto_region 9 with fail
        go_cut [10] from 52 to 121 (fun v10 wx => v10 = .bool (bl || (q && !ld)) ∧ Hid (SW wr wx))
        case first =>
          have m0 := HC.out.1.c0
          have m1 := HC.out.1.c1
          have m2 := HC.out.1.c2
          have m3 := HC.out.1.c3
          have m4 := HC.out.1.c4
          have m5 := HC.out.1.c5
          have x7 := y7 _ hSc
          have x8 := y8 _ hSc
          have KL2 := Lib.hid (KL.out A9 c9 wc HC.out.2.1)
          clear y0 y1 y2 y3 y4 y5 y6 y7 y8 KM z0
          cases q <;> cases bl
          all_goals go_wp2_with (go_at_call 107; refine KL2.out.mono ?_; rintro e w9 ⟨rfl, hb9⟩)
          all_goals go_meet
          all_goals first
            | exact ⟨rfl, Lib.hid hSc⟩
            | exact ⟨rfl, Lib.hid (Below.trans hSc (Below.mono hb9 hSc.size))⟩
        case rest =>
          clear HC hSc KL
          obtain ⟨rfl, HC⟩ := hcut
          obtain ⟨l2, hl2⟩ : ∃ b, b = (bl || (q && !ld)) := ⟨_, rfl⟩
          rw [← hl2]
          have HL9 := Lib.hid hl2
          clear hl2
          rename World => wd
          have hSd : SW wr wd := HC.out
          have HSZ0 : Hid (wr.heap.size ≤ wd.heap.size) := Lib.hid hSd.size
          go_upto_region 10 with fail
          go_cut [17] from 66 to 121 (fun v17 wx => v17 = .bool ow ∧ Hid (SW wr wx))
          case first =>
            have hS : (SW wr) _ := (Below.drew hSd)
            refine wp_region_held_drew (S := SW wr) (by kernel_rfl) hS (fun _ => ?_)
            refine wpAnyH_take (i := 0) (v := ?vP0) rfl (by kernel_rfl) (by kernel_rfl) (by kernel_rfl) (fun _ _ _ h => h) (Or.inl ⟨by rfl, ?hyP0⟩) hS ?restP0
            case hyP0 =>
              intro w hSw
              first | (go_simp; done) | (go_simp; with_reducible rfl)
            try simp only [Act.put, List.setIfInBounds_toArray, List.set_cons_zero, List.set_cons_succ]
            refine wpAnyH_take (i := 1) (v := ?vP1) rfl (by kernel_rfl) (by kernel_rfl) (by kernel_rfl) (fun _ _ _ h => h) (Or.inl ⟨by rfl, ?hyP1⟩) hS ?restP1
            case hyP1 =>
              intro w hSw
              first | (go_simp; done) | (go_simp; with_reducible rfl)
            try simp only [Act.put, List.setIfInBounds_toArray, List.set_cons_zero, List.set_cons_succ]
            refine wpAnyH_take (i := 2) (v := ?vP2) rfl (by kernel_rfl) (by kernel_rfl) (by kernel_rfl) (fun _ _ _ h => h) (Or.inl ⟨by rfl, ?hyP2⟩) hS ?restP2
            case hyP2 =>
              intro w hSw
              have k0 := y0 w hSw
              first | (go_simp; done) | (go_simp; with_reducible rfl)
            try simp only [Act.put, List.setIfInBounds_toArray, List.set_cons_zero, List.set_cons_succ]
            refine wpAnyH_take (i := 3) (v := ?vP3) rfl (by kernel_rfl) (by kernel_rfl) (by kernel_rfl) (fun _ _ _ h => h) (Or.inl ⟨by rfl, ?hyP3⟩) hS ?restP3
            case hyP3 =>
              intro w hSw
              first | (go_simp; done) | (go_simp; with_reducible rfl)
            try simp only [Act.put, List.setIfInBounds_toArray, List.set_cons_zero, List.set_cons_succ]
            refine wpAnyH_take (i := 4) (v := ?vP4) rfl (by kernel_rfl) (by kernel_rfl) (by kernel_rfl) (fun _ _ _ h => h) (Or.inl ⟨by rfl, ?hyP4⟩) hS ?restP4
            case hyP4 =>
              intro w hSw
              have k0 := y1 w hSw
              first | (go_simp; done) | (go_simp; with_reducible rfl)
            try simp only [Act.put, List.setIfInBounds_toArray, List.set_cons_zero, List.set_cons_succ]
            refine wpAnyH_take (i := 5) (v := ?vP5) rfl (by kernel_rfl) (by kernel_rfl) (by kernel_rfl) (fun _ _ _ h => h) (Or.inl ⟨by rfl, ?hyP5⟩) hS ?restP5
            case hyP5 =>
              intro w hSw
              first | (go_simp; done) | (go_simp; with_reducible rfl)
            try simp only [Act.put, List.setIfInBounds_toArray, List.set_cons_zero, List.set_cons_succ]
            refine wpAnyH_take (i := 6) (v := ?vP6) rfl (by kernel_rfl) (by kernel_rfl) (by kernel_rfl) (fun _ _ _ h => h) (Or.inl ⟨by rfl, ?hyP6⟩) hS ?restP6
            case hyP6 =>
              intro w hSw
              first | (go_simp; done) | (go_simp; with_reducible rfl)
            try simp only [Act.put, List.setIfInBounds_toArray, List.set_cons_zero, List.set_cons_succ]
            refine wpAnyH_take (i := 7) (v := ?vP7) rfl (by kernel_rfl) (by kernel_rfl) (by kernel_rfl) (fun _ _ _ h => h) (Or.inl ⟨by rfl, ?hyP7⟩) hS ?restP7
            case hyP7 =>
              intro w hSw
              first | (go_simp; done) | (go_simp; with_reducible rfl)
            try simp only [Act.put, List.setIfInBounds_toArray, List.set_cons_zero, List.set_cons_succ]
            refine wpAnyH_take (i := 8) (v := ?vP8) rfl (by kernel_rfl) (by kernel_rfl) (by kernel_rfl) (fun _ _ _ h => h) (Or.inl ⟨by rfl, ?hyP8⟩) hS ?restP8
            case hyP8 =>
              intro w hSw
              have k0 := z0 w hSw
              first | (go_simp; done) | (go_simp; with_reducible rfl)
            try simp only [Act.put, List.setIfInBounds_toArray, List.set_cons_zero, List.set_cons_succ]
            refine wpAnyH_ready (rs := [9, 13]) (by kernel_rfl) (by simp) ?_
            refine AllReadyH.cons rfl (fun K hK => ?_) (AllReadyH.cons rfl (fun K hK => ?_) AllReadyH.nil)
            · go_simp
              go_wp2_with ((go_at_call 47; refine (KM.out _ hS).mono ?_; rintro e w9 ⟨X1, A9, c9, rfl, hX1, hL1, hb9⟩; have hsz1 : X1.size = 6 := (by rw [hX1.out]; rfl); have hS9 : SW wr w9 := Below.trans hS (Below.mono hb9 hS.size); have hS := hS9; have hst1 := store_fli hX1 w9))
              refine hK.out _ _ hS (fun _ => ?_)
              clear hK K
              refine wpAnyH_take (i := 10) (v := ?vPa10) rfl (by kernel_rfl) (by kernel_rfl) (by kernel_rfl) (fun _ _ _ h => h) (Or.inl ⟨by rfl, ?hyPa10⟩) hS ?restPa10
              case hyPa10 =>
                intro w hSw
                first | (go_simp; done) | (go_simp; with_reducible rfl)
              try simp only [Act.put, List.setIfInBounds_toArray, List.set_cons_zero, List.set_cons_succ]
              refine wpAnyH_take (i := 11) (v := ?vPa11) rfl (by kernel_rfl) (by kernel_rfl) (by kernel_rfl) (fun _ _ _ h => h) (Or.inl ⟨by rfl, ?hyPa11⟩) hS ?restPa11
              case hyPa11 =>
                intro w hSw
                first | (go_simp; done) | (go_simp; with_reducible rfl)
              try simp only [Act.put, List.setIfInBounds_toArray, List.set_cons_zero, List.set_cons_succ]
              refine wpAnyH_take (i := 12) (v := ?vPa12) rfl (by kernel_rfl) (by kernel_rfl) (by kernel_rfl) (fun _ _ _ h => h) (Or.inl ⟨by rfl, ?hyPa12⟩) hS ?restPa12
              case hyPa12 =>
                intro w hSw
                first | (go_simp; done) | (go_simp; with_reducible rfl)
              try simp only [Act.put, List.setIfInBounds_toArray, List.set_cons_zero, List.set_cons_succ]
              refine wpAnyH_ready (rs := [13]) (by kernel_rfl) (by simp) ?_
              refine AllReadyH.cons rfl (fun K hK => ?_) AllReadyH.nil
              go_simp
              have hSp := hS
              have hS := Below.trans hSp (Below.mono (bel_alloc _ (.cells #[.string noB, .int .i64 0, .int .i64 0, .int .i64 0, .int .i64 0, .slice none 0 0] fliT)) hSp.size)
              refine hK.out _ _ hS (fun _ => ?_)
              clear hK K
              refine wpAnyH_ready (rs := [14]) (by kernel_rfl) (by simp) ?_
              refine AllReadyH.cons rfl (fun K hK => ?_) AllReadyH.nil
              go_simp
              have hS : SW wr (w9.alloc (.cells X1 fliT)) := Below.trans hS9 (Below.mono (bel_alloc w9 _) hS9.size)
              refine hK.out _ _ hS (fun _ => ?_)
              clear hK K
              refine wpAnyH_take (i := 15) (v := ?vPa15) rfl (by kernel_rfl) (by kernel_rfl) (by kernel_rfl) (fun _ _ _ h => h) (Or.inl ⟨by rfl, ?hyPa15⟩) hS ?restPa15
              case hyPa15 =>
                intro w hSw
                first | (go_simp; done) | (go_simp; with_reducible rfl)
              try simp only [Act.put, List.setIfInBounds_toArray, List.set_cons_zero, List.set_cons_succ]
              refine wpAnyH_done (by kernel_rfl) ?_ _
              simp only [List.getElem_toArray, List.getElem_cons_succ, List.getElem_cons_zero, List.set_cons_zero, List.set_cons_succ]
              try simp only [List.setIfInBounds_toArray, List.set_cons_zero, List.set_cons_succ]
              go_wp2_with fail
              go_meet
              exact ⟨rfl, Lib.hid hS⟩
            · go_simp
              have hSp := hS
              have hN0 := heap_alloc_new wd.drew (.cells #[.string noB, .int .i64 0, .int .i64 0, .int .i64 0, .int .i64 0, .slice none 0 0] fliT)
              have hS := Below.trans hSp (Below.mono (bel_alloc _ (.cells #[.string noB, .int .i64 0, .int .i64 0, .int .i64 0, .int .i64 0, .slice none 0 0] fliT)) hSp.size)
              refine hK.out _ _ hS (fun _ => ?_)
              clear hK K
              refine wpAnyH_ready (rs := [9]) (by kernel_rfl) (by simp) ?_
              refine AllReadyH.cons rfl (fun K hK => ?_) AllReadyH.nil
              go_simp
              go_wp2_with ((go_at_call 47; refine (KM.out _ hS).mono ?_; rintro e w9 ⟨X1, A9, c9, rfl, hX1, hL1, hb9⟩; have hsz1 : X1.size = 6 := (by rw [hX1.out]; rfl); have hS9 : SW wr w9 := Below.trans hS (Below.mono hb9 hS.size); have hS := hS9; obtain ⟨wS, hst0, hxS, hbS⟩ := store_blk (X := X1) ((hb9.block _ (lt_of_cell2 hN0)).trans hN0) hsz1 (by rw [hX1.out]; simp [Value.oneCell']); have hst1 : (storeCells ⟨wd.heap.size, 0, none⟩ X1.toList 0).run Tryz.prog w9 = .ok () wS := hst0))
              refine hK.out _ _ hS (fun _ => ?_)
              clear hK K
              refine wpAnyH_take (i := 10) (v := ?vPb10) rfl (by kernel_rfl) (by kernel_rfl) (by kernel_rfl) (fun _ _ _ h => h) (Or.inl ⟨by rfl, ?hyPb10⟩) hS ?restPb10
              case hyPb10 =>
                intro w hSw
                first | (go_simp; done) | (go_simp; with_reducible rfl)
              try simp only [Act.put, List.setIfInBounds_toArray, List.set_cons_zero, List.set_cons_succ]
              refine wpAnyH_take (i := 11) (v := ?vPb11) rfl (by kernel_rfl) (by kernel_rfl) (by kernel_rfl) (fun _ _ _ h => h) (Or.inl ⟨by rfl, ?hyPb11⟩) hS ?restPb11
              case hyPb11 =>
                intro w hSw
                first | (go_simp; done) | (go_simp; with_reducible rfl)
              try simp only [Act.put, List.setIfInBounds_toArray, List.set_cons_zero, List.set_cons_succ]
              refine wpAnyH_take (i := 12) (v := ?vPb12) rfl (by kernel_rfl) (by kernel_rfl) (by kernel_rfl) (fun _ _ _ h => h) (Or.inl ⟨by rfl, ?hyPb12⟩) hS ?restPb12
              case hyPb12 =>
                intro w hSw
                first | (go_simp; done) | (go_simp; with_reducible rfl)
              try simp only [Act.put, List.setIfInBounds_toArray, List.set_cons_zero, List.set_cons_succ]
              refine wpAnyH_ready (rs := [14]) (by kernel_rfl) (by simp) ?_
              refine AllReadyH.cons rfl (fun K hK => ?_) AllReadyH.nil
              go_simp
              have hS : SW wr wS := Below.trans hS9 (hbS.below hS9.size (fun q hq he => by have h1 : q = wd.heap.size := he; have h2 := HSZ0.out; omega))
              refine hK.out _ _ hS (fun _ => ?_)
              clear hK K
              refine wpAnyH_take (i := 15) (v := ?vPb15) rfl (by kernel_rfl) (by kernel_rfl) (by kernel_rfl) (fun _ _ _ h => h) (Or.inl ⟨by rfl, ?hyPb15⟩) hS ?restPb15
              case hyPb15 =>
                intro w hSw
                first | (go_simp; done) | (go_simp; with_reducible rfl)
              try simp only [Act.put, List.setIfInBounds_toArray, List.set_cons_zero, List.set_cons_succ]
              refine wpAnyH_done (by kernel_rfl) ?_ _
              simp only [List.getElem_toArray, List.getElem_cons_succ, List.getElem_cons_zero, List.set_cons_zero, List.set_cons_succ]
              try simp only [List.setIfInBounds_toArray, List.set_cons_zero, List.set_cons_succ]
              go_wp2_with fail
              go_meet
              exact ⟨rfl, Lib.hid hS⟩
          case rest =>
            obtain ⟨rfl, HC2⟩ := hcut
            clear KM HC hSd HSZ0
            go_upto_region 11 with fail
            go_cut [11] from 78 to 121 (fun v wx => v = .bool (bt || ow) ∧ Hid (SW wr wx))
            case first =>
              cases bt
              all_goals go_wp2
              all_goals go_meet
              all_goals exact ⟨rfl, HC2⟩
            case rest =>
              clear HC2
              obtain ⟨rfl, HC⟩ := hcut
              rename World => we
              obtain ⟨wo, hwo⟩ : ∃ wo, wo = wr := ⟨_, rfl⟩
              subst hwo
              have HSe : Hid (SW wo we) := Lib.hid HC.out
              obtain ⟨b0, hb0⟩ : ∃ b, b = (bt || ow) := ⟨_, rfl⟩
              rw [← hb0]
              have HB00 := Lib.hid hb0
              clear hb0 HC y2 y3 y4 y5 y6 y7 y8
              go_wp2
              go_loopg [11, 18] i (fun jx v11 vj wq => ∃ (j : Nat) (b2 : Bool), j + jx = i ∧ v11 = .bool b2 ∧ vj = .int .i64 j ∧ Hid (b2 = (b0 || (sh.take j).any (fun y => smB y s && Per.hasQ (y.pf, y.pt, y.pd) d)) ∧ SW we wq))
              case atStart => exact ⟨0, b0, by omega, rfl, rfl, Lib.hid ⟨by simp, Below.refl _ _⟩⟩
              case round =>
                obtain ⟨j, b2, hjx, rfl, rfl, HJ⟩ := hrel
                have HJX := Lib.hid hjx
                have hj : j ≤ i := by omega
                clear hjx
                have HSR : Hid (SW wo wr) := Lib.hid (Below.trans HSe.out (Below.mono HJ.out.2 HSe.out.size))
                by_cases hji : j < i
                · obtain ⟨y, hy⟩ : ∃ y, sh[j]? = some y := ⟨_, List.getElem?_eq_getElem (by have := HIL.out; omega)⟩
                  have HTJ := Lib.hid (any_take (fun y => smB y s && Per.hasQ (y.pf, y.pt, y.pd) d) sh j y hy)
                  obtain ⟨b3, o3, e3, hb3l, hc3⟩ := RowL.at9 (HS.out.more (Below.trans HSr.out (Below.mono HSR.out HSr.out.size))) hy
                  cases e3
                  have d0 := hc3 0 _ rfl
                  have d1 := hc3 1 _ rfl
                  have d2 := hc3 2 _ rfl
                  have d3 := hc3 3 _ rfl
                  have d4 := hc3 4 _ rfl
                  have d5 := hc3 5 _ rfl
                  have d6 := hc3 6 _ rfl
                  have d7 := hc3 7 _ rfl
                  have d8 := hc3 8 _ rfl
                  rw [Nat.add_zero] at d0
                  have j1 : (j : Int) < (i : Int) := by omega
                  have j2 : (j : Int) < (sh.length : Int) := by have := HIL.out; omega
                  have hb6 := bel_alloc wr (.cells #[.string y.car, .int .i64 y.num, .int .i64 y.pf, .int .i64 y.pt, .int .i64 y.pd, .string y.op, .int .i64 y.am, .string y.f, .string y.t] shT)
                  have n0 := (cells_new wr #[.string y.car, .int .i64 y.num, .int .i64 y.pf, .int .i64 y.pt, .int .i64 y.pd, .string y.op, .int .i64 y.am, .string y.f, .string y.t] shT 0).trans (show _ = some (Value.string y.car) from rfl)
                  have n1 := (cells_new wr #[.string y.car, .int .i64 y.num, .int .i64 y.pf, .int .i64 y.pt, .int .i64 y.pd, .string y.op, .int .i64 y.am, .string y.f, .string y.t] shT 1).trans (show _ = some (Value.int .i64 y.num) from rfl)
                  have n2 := (cells_new wr #[.string y.car, .int .i64 y.num, .int .i64 y.pf, .int .i64 y.pt, .int .i64 y.pd, .string y.op, .int .i64 y.am, .string y.f, .string y.t] shT 2).trans (show _ = some (Value.int .i64 y.pf) from rfl)
                  have n3 := (cells_new wr #[.string y.car, .int .i64 y.num, .int .i64 y.pf, .int .i64 y.pt, .int .i64 y.pd, .string y.op, .int .i64 y.am, .string y.f, .string y.t] shT 3).trans (show _ = some (Value.int .i64 y.pt) from rfl)
                  have n4 := (cells_new wr #[.string y.car, .int .i64 y.num, .int .i64 y.pf, .int .i64 y.pt, .int .i64 y.pd, .string y.op, .int .i64 y.am, .string y.f, .string y.t] shT 4).trans (show _ = some (Value.int .i64 y.pd) from rfl)
                  have hSx : SW wo (wr.alloc (.cells #[.string y.car, .int .i64 y.num, .int .i64 y.pf, .int .i64 y.pt, .int .i64 y.pd, .string y.op, .int .i64 y.am, .string y.f, .string y.t] shT)) := Below.trans HSR.out (Below.mono hb6 HSR.out.size)
                  have x0 := y0 _ hSx
                  have x1 := y1 _ hSx
                  have xz := z0 _ hSx
                  have HSX : Hid (SW we (wr.alloc (.cells #[.string y.car, .int .i64 y.num, .int .i64 y.pf, .int .i64 y.pt, .int .i64 y.pd, .string y.op, .int .i64 y.am, .string y.f, .string y.t] shT))) := Lib.hid (Below.trans HJ.out.2 (Below.mono hb6 HJ.out.2.size))
                  clear hc3 hy hb3l hSx
                  go_upto_region 16 with fail
                  generalize hw6 : (wr.alloc (.cells #[.string y.car, .int .i64 y.num, .int .i64 y.pf, .int .i64 y.pt, .int .i64 y.pd, .string y.op, .int .i64 y.am, .string y.f, .string y.t] shT)) = w6 at *
                  clear hw6 hb6 d0 d1 d2 d3 d4 d5 d6 d7 d8
                  obtain ⟨er, her⟩ : ∃ x, x = Per.errQ (y.pf, y.pt, y.pd) := ⟨_, rfl⟩
                  obtain ⟨hh, hhh⟩ : ∃ x, x = Per.hasQ (y.pf, y.pt, y.pd) d := ⟨_, rfl⟩
                  have KC : Hid (∀ W, SW w6 W → Calls Tryz.prog 67 #[.agg #[.int .i64 y.pf, .int .i64 y.pt, .int .i64 y.pd]] W fun e w' => e = .returned (.int .i64 er) ∧ SW w6 w') := Lib.hid (SW.call (fun W _ => by rw [her]; exact Per.rcheck_any y.pf y.pt y.pd W))
                  have KH : Hid (∀ W, Calls Tryz.prog 51 #[.agg #[.int .i64 y.pf, .int .i64 y.pt, .int .i64 y.pd], .int .i64 d] W fun e w' => e = .returned (.bool hh) ∧ Below W.heap.size W w') := Lib.hid (fun W => by rw [hhh]; exact Per.rhas_any y.pf y.pt y.pd d W (by omega) (by omega))
                  have HSM : Hid (smB y s = ((y.car.toList == s.car.toList) && ((y.num == s.num) && (er == 0)))) := Lib.hid (by rw [her]; rfl)
                  rw [← hhh] at HTJ
                  obtain ⟨sm, hsm⟩ : ∃ x, x = smB y s := ⟨_, rfl⟩
                  rw [← hsm] at HSM HTJ
                  clear her hhh hsm
                  have hS6 : SW w6 w6 := Below.refl _ _
                  go_cut [20] from 91 to 121 (fun v wx => v = .bool sm ∧ Hid (SW w6 wx))
                  case first =>
                    clear HTJ KH xz
                    cases h1 : (y.car.toList == s.car.toList)
                    · rw [h1] at HSM
                      go_wp2
                      go_meet
                      exact ⟨by rw [HSM.out]; rfl, Lib.hid hS6⟩
                    · cases h2 : (y.num == s.num)
                      · rw [h1, h2] at HSM
                        go_wp2
                        go_meet
                        exact ⟨by rw [HSM.out]; rfl, Lib.hid hS6⟩
                      · rw [h1, h2] at HSM
                        cases h3 : (er == 0)
                        all_goals
                          rw [h3] at HSM
                          go_wp2_with (go_at_call 67; refine (KC.out _ hS6).mono ?_; rintro e w9 ⟨rfl, hS9⟩)
                          go_meet
                          exact ⟨by rw [HSM.out]; rfl, Lib.hid hS9⟩
                  case rest =>
                    obtain ⟨rfl, HC⟩ := hcut
                    clear KC HSM x0 x1 hS6
                    rename World => wf
                    have n2 := SW.cell (bel_cell HC.out n2)
                    have n3 := SW.cell (bel_cell HC.out n3)
                    have n4 := SW.cell (bel_cell HC.out n4)
                    have xz := SW.cell (bel_cell HC.out xz)
                    have HSf : Hid (SW we wf) := Lib.hid (Below.trans HSX.out (Below.mono HC.out HSX.out.size))
                    clear n0 n1
                    have KH2 : Hid (∀ W, SW wf W → Calls Tryz.prog 51 #[.agg #[.int .i64 y.pf, .int .i64 y.pt, .int .i64 y.pd], .int .i64 d] W fun e w' => e = .returned (.bool hh) ∧ SW wf w') := Lib.hid (SW.call (fun W _ => KH.out W))
                    clear KH HC HSX
                    cases b2 <;> cases sm
                    all_goals
                      go_upto_region 17 with fail
                      have hNe : Nonempty (Wd (SW wf)) := ⟨⟨_, SW.drew _⟩⟩
                      refine quietS (S := SW wf) (by kernel_rfl) (by kernel_rfl) (SW.drew _) ?_
                      repeat (first | go_big_quiet_skip | (go_big_quiet_want; go_big_quiet_op; first | go_big_quiet_on | go_big_quiet_call ((go_at_call 51; exact quiet_S (KH2.out _ (Wd.ok _))))))
                      refine wpQuiet_nil ?_
                      rintro W ⟨⟨_, hW⟩, rfl⟩
                      go_wp2
                      go_roundg (i - (j + 1))
                      all_goals first
                        | (case measure => have := HJX.out; omega)
                        | exact ⟨j + 1, _, by omega, rfl, by go_num, Lib.hid ⟨by rw [HTJ.out, ← Bool.or_assoc, ← HJ.out.1]; rfl, Below.trans HSf.out (Below.mono hW HSf.out.size)⟩⟩
                        | exact ⟨j + 1, _, by omega, rfl, by go_num, Lib.hid ⟨by rw [HTJ.out, ← Bool.or_assoc, ← HJ.out.1]; simp, Below.trans HSf.out (Below.mono hW HSf.out.size)⟩⟩
                · have hji2 : ¬ (j : Int) < (i : Int) := by omega
                  have hje : j = i := by omega
                  have HR3 : Hid (b2 = (D.take (k + 1)).any (ownB fs (soS (sh.take i)) s)) := Lib.hid (by rw [HT3.out, HN3.out, HJ.out.1, HB00.out, hje, ← HK.out.2.2.1, Bool.or_assoc])
                  have HW : Hid (SW w7 wr) := Lib.hid (Below.trans HSk.out (Below.mono HSR.out HSk.out.size))
                  clear HJ HT3 HN3 hje HB00 z0 y0 y1
                  go_wp2
                  go_roundg (D.length - (k + 1))
                  case rel => exact ⟨k + 1, _, _, _, by omega, rfl, rfl, rfl, by go_num, Lib.hid ⟨by rw [HT1.out, HN1.out, ← HK.out.1, HN9.out], by rw [HT2.out, HN2.out, ← HK.out.2.1, HL9.out], HR3.out, HW.out⟩⟩
                  case measure => have := HKX.out; omega
    · have hk2 : ¬ (k : Int) < (D.length : Int) := by omega
      have hke : k = D.length := by omega
      have HR : Hid (bn = D.any (nonD fs s) ∧ bl = D.any (offD fs s) ∧ bt = D.any (ownB fs (soS (sh.take i)) s)) := Lib.hid (by obtain ⟨h1, h2, h3, _⟩ := HK.out; rw [hke, List.take_length] at h1 h2 h3; exact ⟨h1, h2, h3⟩)
      have hSr : SW w5 wr := Below.trans HS7.out (Below.mono HK.out.2.2.2 HS7.out.size)
      clear HK hke
      have hO0 : EOwn w5.heap.size wr (.slice none 0 0) [] := ROwn.nil hSr.size
      have hw5 : w.heap.size ≤ w5.heap.size := HB0.out.size
      cases bn <;> cases bl <;> cases bt
      · go_wp2
        go_ret
        exact ⟨_, rfl, ⟨by rw [← HR.out.1, ← HR.out.2.1, ← HR.out.2.2]; simpa [wh, okE] using hO0.own.mono hw5, Nat.le_trans hw5 hSr.size⟩, HB0.out.trans (Below.mono hSr hw5)⟩
      · go_wp2_with (first | (at_builtin; refine wpList_rapp rtE rfl _ _ rfl hO0 rfl (bel_alloc _ _) _ (6 : Int) _ rfl (cs := #[.int .i64 6]) rfl (heap_alloc_new _ _) (by (try simp only [List.length_append, List.length_cons, List.length_nil]); omega) ?_; intro vC wC hOC hCC; have hSC : SW w5 wC := Below.trans hSr ((hCC.below hO0).mono (Nat.le_refl _))))
        go_ret
        exact ⟨_, rfl, ⟨by rw [← HR.out.1, ← HR.out.2.1, ← HR.out.2.2]; simpa [wh, okE] using hOC.own.mono hw5, Nat.le_trans hw5 hSC.size⟩, HB0.out.trans (Below.mono hSC hw5)⟩
      · go_wp2_with (first | (at_builtin; refine wpList_rapp rtE rfl _ _ rfl hO0 rfl (bel_alloc _ _) _ (15 : Int) _ rfl (cs := #[.int .i64 15]) rfl (heap_alloc_new _ _) (by (try simp only [List.length_append, List.length_cons, List.length_nil]); omega) ?_; intro vB wB hOB hCB; have hSB : SW w5 wB := Below.trans hSr ((hCB.below hO0).mono (Nat.le_refl _))))
        go_ret
        exact ⟨_, rfl, ⟨by rw [← HR.out.1, ← HR.out.2.1, ← HR.out.2.2]; simpa [wh, okE] using hOB.own.mono hw5, Nat.le_trans hw5 hSB.size⟩, HB0.out.trans (Below.mono hSB hw5)⟩
      · go_wp2_with (first | (at_builtin; refine wpList_rapp rtE rfl _ _ rfl hOB rfl (bel_alloc _ _) _ (6 : Int) _ rfl (cs := #[.int .i64 6]) rfl (heap_alloc_new _ _) (by (try simp only [List.length_append, List.length_cons, List.length_nil]); omega) ?_; intro vC wC hOC hCC; have hSC : SW w5 wC := Below.trans hSB ((hCC.below hOB).mono (Nat.le_refl _))) | (at_builtin; refine wpList_rapp rtE rfl _ _ rfl hO0 rfl (bel_alloc _ _) _ (15 : Int) _ rfl (cs := #[.int .i64 15]) rfl (heap_alloc_new _ _) (by (try simp only [List.length_append, List.length_cons, List.length_nil]); omega) ?_; intro vB wB hOB hCB; have hSB : SW w5 wB := Below.trans hSr ((hCB.below hO0).mono (Nat.le_refl _))))
        go_ret
        exact ⟨_, rfl, ⟨by rw [← HR.out.1, ← HR.out.2.1, ← HR.out.2.2]; simpa [wh, okE] using hOC.own.mono hw5, Nat.le_trans hw5 hSC.size⟩, HB0.out.trans (Below.mono hSC hw5)⟩
      · go_wp2_with (first | (at_builtin; refine wpList_rapp rtE rfl _ _ rfl hO0 rfl (bel_alloc _ _) _ (7 : Int) _ rfl (cs := #[.int .i64 7]) rfl (heap_alloc_new _ _) (by (try simp only [List.length_append, List.length_cons, List.length_nil]); omega) ?_; intro vA wA hOA hCA; have hSA : SW w5 wA := Below.trans hSr ((hCA.below hO0).mono (Nat.le_refl _))))
        go_ret
        exact ⟨_, rfl, ⟨by rw [← HR.out.1, ← HR.out.2.1, ← HR.out.2.2]; simpa [wh, okE] using hOA.own.mono hw5, Nat.le_trans hw5 hSA.size⟩, HB0.out.trans (Below.mono hSA hw5)⟩
      · go_wp2_with (first | (at_builtin; refine wpList_rapp rtE rfl _ _ rfl hOA rfl (bel_alloc _ _) _ (6 : Int) _ rfl (cs := #[.int .i64 6]) rfl (heap_alloc_new _ _) (by (try simp only [List.length_append, List.length_cons, List.length_nil]); omega) ?_; intro vC wC hOC hCC; have hSC : SW w5 wC := Below.trans hSA ((hCC.below hOA).mono (Nat.le_refl _))) | (at_builtin; refine wpList_rapp rtE rfl _ _ rfl hO0 rfl (bel_alloc _ _) _ (7 : Int) _ rfl (cs := #[.int .i64 7]) rfl (heap_alloc_new _ _) (by (try simp only [List.length_append, List.length_cons, List.length_nil]); omega) ?_; intro vA wA hOA hCA; have hSA : SW w5 wA := Below.trans hSr ((hCA.below hO0).mono (Nat.le_refl _))))
        go_ret
        exact ⟨_, rfl, ⟨by rw [← HR.out.1, ← HR.out.2.1, ← HR.out.2.2]; simpa [wh, okE] using hOC.own.mono hw5, Nat.le_trans hw5 hSC.size⟩, HB0.out.trans (Below.mono hSC hw5)⟩
      · go_wp2_with (first | (at_builtin; refine wpList_rapp rtE rfl _ _ rfl hOA rfl (bel_alloc _ _) _ (15 : Int) _ rfl (cs := #[.int .i64 15]) rfl (heap_alloc_new _ _) (by (try simp only [List.length_append, List.length_cons, List.length_nil]); omega) ?_; intro vB wB hOB hCB; have hSB : SW w5 wB := Below.trans hSA ((hCB.below hOA).mono (Nat.le_refl _))) | (at_builtin; refine wpList_rapp rtE rfl _ _ rfl hO0 rfl (bel_alloc _ _) _ (7 : Int) _ rfl (cs := #[.int .i64 7]) rfl (heap_alloc_new _ _) (by (try simp only [List.length_append, List.length_cons, List.length_nil]); omega) ?_; intro vA wA hOA hCA; have hSA : SW w5 wA := Below.trans hSr ((hCA.below hO0).mono (Nat.le_refl _))))
        go_ret
        exact ⟨_, rfl, ⟨by rw [← HR.out.1, ← HR.out.2.1, ← HR.out.2.2]; simpa [wh, okE] using hOB.own.mono hw5, Nat.le_trans hw5 hSB.size⟩, HB0.out.trans (Below.mono hSB hw5)⟩
      · go_wp2_with (first | (at_builtin; refine wpList_rapp rtE rfl _ _ rfl hOB rfl (bel_alloc _ _) _ (6 : Int) _ rfl (cs := #[.int .i64 6]) rfl (heap_alloc_new _ _) (by (try simp only [List.length_append, List.length_cons, List.length_nil]); omega) ?_; intro vC wC hOC hCC; have hSC : SW w5 wC := Below.trans hSB ((hCC.below hOB).mono (Nat.le_refl _))) | (at_builtin; refine wpList_rapp rtE rfl _ _ rfl hOA rfl (bel_alloc _ _) _ (15 : Int) _ rfl (cs := #[.int .i64 15]) rfl (heap_alloc_new _ _) (by (try simp only [List.length_append, List.length_cons, List.length_nil]); omega) ?_; intro vB wB hOB hCB; have hSB : SW w5 wB := Below.trans hSA ((hCB.below hOA).mono (Nat.le_refl _))) | (at_builtin; refine wpList_rapp rtE rfl _ _ rfl hO0 rfl (bel_alloc _ _) _ (7 : Int) _ rfl (cs := #[.int .i64 7]) rfl (heap_alloc_new _ _) (by (try simp only [List.length_append, List.length_cons, List.length_nil]); omega) ?_; intro vA wA hOA hCA; have hSA : SW w5 wA := Below.trans hSr ((hCA.below hO0).mono (Nat.le_refl _))))
        go_ret
        exact ⟨_, rfl, ⟨by rw [← HR.out.1, ← HR.out.2.1, ← HR.out.2.2]; simpa [wh, okE] using hOC.own.mono hw5, Nat.le_trans hw5 hSC.size⟩, HB0.out.trans (Below.mono hSC hw5)⟩
end Go.Proofs.YtdpcjafkahhecaaGreatDoor
