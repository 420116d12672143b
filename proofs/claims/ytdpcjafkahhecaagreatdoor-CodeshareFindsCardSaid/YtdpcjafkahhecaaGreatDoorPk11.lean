/- Words and walks that the laws below ask: SchI, SchJ, SchJ2, SchG, SchQ, FliP, FliQ. -/
import Derived.Test.YtdpcjafkahhecaaGreatDoorPk4
import Derived.Test.YtdpcjafkahhecaaGreatDoorPk7
import Derived.Test.YtdpcjafkahhecaaGreatDoorPk9
import Derived.Test.YtdpcjafkahhecaaGreatDoorPk10
/- Walk of Check of a timetable. -/
namespace Go.Proofs.YtdpcjafkahhecaaGreatDoor
open Go.RowKit Go.Shelf Go.Maps
set_option linter.unusedSimpArgs false
set_option linter.unusedVariables false

theorem own_cells {α : Type} {enc : α → List Value} {e : TypeId} {sz B : Nat} {w : World} {v : Value} {l : List α} (h : ROwn e sz enc B w v l) {k : Nat} (hk : v.ownBlock = some k) : ∃ cs, w.heap[k]? = some (.cells cs e (0, 0)) := by
  rcases h.own.2 with ⟨rfl, _⟩ | ⟨g, cap, cur, rfl, _, hg, _⟩
  · cases hk
  · cases hk
    exact ⟨cur, hg⟩
theorem ROwn.but {α : Type} {enc : α → List Value} {e : TypeId} {sz B : Nat} {w w' : World} {X : Nat → Prop} {v : Value} {l : List α} (h : ROwn e sz enc B w v l) (hB : But w w' X) (hx : ∀ k, v.ownBlock = some k → ¬ X k) : ROwn e sz enc B w' v l := by
  obtain ⟨⟨h1, h2⟩, h3⟩ := h
  refine ⟨⟨h1, ?_⟩, Nat.le_trans h3 hB.size⟩
  rcases h2 with ⟨rfl, hn⟩ | ⟨g, cap, cur, rfl, hb, hg, hr⟩
  · exact .inl ⟨rfl, hn⟩
  · exact .inr ⟨g, cap, cur, rfl, hb, (hB.block g (Array.getElem?_eq_some_iff.1 hg).1 (hx g rfl)).trans hg, hr⟩
theorem ROwn.not_map {α : Type} {enc : α → List Value} {e : TypeId} {sz B lo : Nat} {w : World} {v : Value} {l : List α} (h : ROwn e sz enc B w v l) : ∀ k, v.ownBlock = some k → ¬ MapX w lo k := by
  rintro k hk ⟨_, es, cl, h1⟩
  obtain ⟨cs, h2⟩ := own_cells h hk
  rw [h2] at h1
  cases h1
theorem preF_take (at_ : ByteArray) (l : List Flt) {j : Nat} {x : Flt} (h : l[j]? = some x) : preF at_ (l.take (j + 1)) = preF at_ (l.take j) ++ [(x.1, (at_ ++ spW) ++ x.2)] := by
  obtain ⟨hk, rfl⟩ := List.getElem?_eq_some_iff.1 h
  unfold preF
  rw [show l.take (j + 1) = l.take j ++ [l[j]] from (List.take_append_getElem hk).symm, List.map_append]
  rfl
theorem preF_len (at_ : ByteArray) (l : List Flt) : (preF at_ l).length = l.length := by simp [preF]
theorem schF_le (l : List Air) (fs : List FV) (hc : ∀ f ∈ fs, (chF l f).length ≤ 1000) : ∀ k, (schF l fs k).length ≤ 1001 * k
  | 0 => by simp [schF_zero]
  | k + 1 => by
    have ih := schF_le l fs hc k
    cases h : fs[k]? with
    | none =>
      have e : schF l fs (k + 1) = schF l fs k := by simp [schF, List.range_succ, h]
      rw [e]; omega
    | some f =>
      rw [schF_succ l fs k f h]
      have h1 := hc f (List.mem_of_getElem? h)
      have h2 := pick_le (fliW ++ decA k) [wh (twcB (fs.take k) f) 6]
      simp only [List.length_append, preF_len, List.length_cons, List.length_nil] at *
      omega
end Go.Proofs.YtdpcjafkahhecaaGreatDoor

/- Walk of the reference's meets. -/
namespace Go.Proofs.YtdpcjafkahhecaaGreatDoor
open Go.RowKit Go.Shelf Go.Maps
set_option linter.unusedSimpArgs false
set_option linter.unusedVariables false

theorem meetP_any (a b : Int × Int × Int) (w : World) (ha : (-9223372036854775808 ≤ a.1 ∧ a.1 ≤ 9223372036854775807) ∧ (-9223372036854775808 ≤ a.2.1 ∧ a.2.1 ≤ 9223372036854775807) ∧ (-9223372036854775808 ≤ a.2.2 ∧ a.2.2 ≤ 9223372036854775807)) : Calls Tryz.prog 98 #[.agg #[.int .i64 a.1, .int .i64 a.2.1, .int .i64 a.2.2], .agg #[.int .i64 b.1, .int .i64 b.2.1, .int .i64 b.2.2]] w fun e W' => ∃ m0 m1 m2, e = .returned (.tuple #[.agg #[.int .i64 m0, .int .i64 m1, .int .i64 m2], .bool (Per.ofQ (Per.mtQ a b)).2]) ∧ Below w.heap.size w W' :=
  (Per.rmeet_any a b w ha).mono (by rintro e w' ⟨rfl, hb⟩; exact ⟨_, _, _, rfl, hb⟩)
set_option maxRecDepth 100000 in
set_option maxHeartbeats 8000000 in
theorem rmeets_any (a b : FV) (w : World) (ha : (-9223372036854775808 ≤ a.pf ∧ a.pf ≤ 9223372036854775807) ∧ (-9223372036854775808 ≤ a.pt ∧ a.pt ≤ 9223372036854775807) ∧ (-9223372036854775808 ≤ a.pd ∧ a.pd ≤ 9223372036854775807)) :
    Calls Tryz.prog 59 #[encFl a, encFl b] w fun e w' => e = .returned (.bool (mtsB a b)) ∧ Below w.heap.size w w' := by
  have hb1 := bel_alloc w (.cells #[.string a.car, .int .i64 a.num, .int .i64 a.pf, .int .i64 a.pt, .int .i64 a.pd, .slice a.A a.lg.length a.c] fliT)
  have hb2 := bel_alloc (w.alloc (.cells #[.string a.car, .int .i64 a.num, .int .i64 a.pf, .int .i64 a.pt, .int .i64 a.pd, .slice a.A a.lg.length a.c] fliT)) (.cells #[.string b.car, .int .i64 b.num, .int .i64 b.pf, .int .i64 b.pt, .int .i64 b.pd, .slice b.A b.lg.length b.c] fliT)
  have hs1 := hb1.trans (hb2.mono hb1.size)
  have p0 := bel_cell hb2 ((cells_new w #[.string a.car, .int .i64 a.num, .int .i64 a.pf, .int .i64 a.pt, .int .i64 a.pd, .slice a.A a.lg.length a.c] fliT 0).trans (show _ = some (Value.string a.car) from rfl))
  have q0 := (cells_new (w.alloc (.cells #[.string a.car, .int .i64 a.num, .int .i64 a.pf, .int .i64 a.pt, .int .i64 a.pd, .slice a.A a.lg.length a.c] fliT)) #[.string b.car, .int .i64 b.num, .int .i64 b.pf, .int .i64 b.pt, .int .i64 b.pd, .slice b.A b.lg.length b.c] fliT 0).trans (show _ = some (Value.string b.car) from rfl)
  have p1 := bel_cell hb2 ((cells_new w #[.string a.car, .int .i64 a.num, .int .i64 a.pf, .int .i64 a.pt, .int .i64 a.pd, .slice a.A a.lg.length a.c] fliT 1).trans (show _ = some (Value.int .i64 a.num) from rfl))
  have q1 := (cells_new (w.alloc (.cells #[.string a.car, .int .i64 a.num, .int .i64 a.pf, .int .i64 a.pt, .int .i64 a.pd, .slice a.A a.lg.length a.c] fliT)) #[.string b.car, .int .i64 b.num, .int .i64 b.pf, .int .i64 b.pt, .int .i64 b.pd, .slice b.A b.lg.length b.c] fliT 1).trans (show _ = some (Value.int .i64 b.num) from rfl)
  have p2 := bel_cell hb2 ((cells_new w #[.string a.car, .int .i64 a.num, .int .i64 a.pf, .int .i64 a.pt, .int .i64 a.pd, .slice a.A a.lg.length a.c] fliT 2).trans (show _ = some (Value.int .i64 a.pf) from rfl))
  have q2 := (cells_new (w.alloc (.cells #[.string a.car, .int .i64 a.num, .int .i64 a.pf, .int .i64 a.pt, .int .i64 a.pd, .slice a.A a.lg.length a.c] fliT)) #[.string b.car, .int .i64 b.num, .int .i64 b.pf, .int .i64 b.pt, .int .i64 b.pd, .slice b.A b.lg.length b.c] fliT 2).trans (show _ = some (Value.int .i64 b.pf) from rfl)
  have p3 := bel_cell hb2 ((cells_new w #[.string a.car, .int .i64 a.num, .int .i64 a.pf, .int .i64 a.pt, .int .i64 a.pd, .slice a.A a.lg.length a.c] fliT 3).trans (show _ = some (Value.int .i64 a.pt) from rfl))
  have q3 := (cells_new (w.alloc (.cells #[.string a.car, .int .i64 a.num, .int .i64 a.pf, .int .i64 a.pt, .int .i64 a.pd, .slice a.A a.lg.length a.c] fliT)) #[.string b.car, .int .i64 b.num, .int .i64 b.pf, .int .i64 b.pt, .int .i64 b.pd, .slice b.A b.lg.length b.c] fliT 3).trans (show _ = some (Value.int .i64 b.pt) from rfl)
  have p4 := bel_cell hb2 ((cells_new w #[.string a.car, .int .i64 a.num, .int .i64 a.pf, .int .i64 a.pt, .int .i64 a.pd, .slice a.A a.lg.length a.c] fliT 4).trans (show _ = some (Value.int .i64 a.pd) from rfl))
  have q4 := (cells_new (w.alloc (.cells #[.string a.car, .int .i64 a.num, .int .i64 a.pf, .int .i64 a.pt, .int .i64 a.pd, .slice a.A a.lg.length a.c] fliT)) #[.string b.car, .int .i64 b.num, .int .i64 b.pf, .int .i64 b.pt, .int .i64 b.pd, .slice b.A b.lg.length b.c] fliT 4).trans (show _ = some (Value.int .i64 b.pd) from rfl)
  rw [World.size_alloc] at q0 q1 q2 q3 q4
  have KM := Lib.hid (fun W => meetP_any (a.pf, a.pt, a.pd) (b.pf, b.pt, b.pd) W ha)
  dsimp only at KM
  obtain ⟨s, hs⟩ : ∃ s, s = (Per.ofQ (Per.mtQ (a.pf, a.pt, a.pd) (b.pf, b.pt, b.pd))).2 := ⟨_, rfl⟩
  have HR : Hid (mtsB a b = (((a.car.toList == b.car.toList) && (a.num == b.num)) && s)) := Lib.hid (by rw [hs]; rfl)
  rw [← hs] at KM
  have HB0 := Lib.hid hs1
  clear hs ha hb1 hb2 hs1
  go_enter Tryz.func59, Tryz.ntmps59
  go_upto_region 1 with fail
  generalize hw5 : ((w.alloc (.cells #[.string a.car, .int .i64 a.num, .int .i64 a.pf, .int .i64 a.pt, .int .i64 a.pd, .slice a.A a.lg.length a.c] fliT)).alloc (.cells #[.string b.car, .int .i64 b.num, .int .i64 b.pf, .int .i64 b.pt, .int .i64 b.pd, .slice b.A b.lg.length b.c] fliT)) = w5 at *
  clear hw5
  go_upto_region 2 with (go_at_call 98; refine (KM.out _).mono ?_; rintro e w7 ⟨m0, m1, m2, rfl, hb7⟩)
  have hb8 := bel_alloc w7 (.cells #[.int .i64 m0, .int .i64 m1, .int .i64 m2] 58)
  have hb78 := hb7.trans (hb8.mono hb7.size)
  generalize hw8 : w7.alloc (.cells #[.int .i64 m0, .int .i64 m1, .int .i64 m2] 58) = w8 at *
  clear hw8
  have r0 := bel_cell hb78 p0
  have t0 := bel_cell hb78 q0
  have r1 := bel_cell hb78 p1
  have t1 := bel_cell hb78 q1
  have HB8 := Lib.hid (HB0.out.trans (hb78.mono HB0.out.size))
  clear hb7 hb8 hb78 KM p0 p1 p2 p3 p4 q0 q1 q2 q3 q4
  cases h1 : (a.car.toList == b.car.toList) with
  | false =>
    have HR2 : Hid (false = mtsB a b) := Lib.hid (by rw [HR.out, h1]; rfl)
    go_wp2
    go_ret
    exact ⟨ret_bool HR2.out, HB8.out⟩
  | true =>
  cases h2 : (a.num == b.num) with
  | false =>
    have HR2 : Hid (false = mtsB a b) := Lib.hid (by rw [HR.out, h1, h2]; rfl)
    go_wp2
    go_ret
    exact ⟨ret_bool HR2.out, HB8.out⟩
  | true =>
    have HR2 : Hid (s = mtsB a b) := Lib.hid (by rw [HR.out, h1, h2]; rfl)
    go_wp2
    go_ret
    exact ⟨ret_bool HR2.out, HB8.out⟩

end Go.Proofs.YtdpcjafkahhecaaGreatDoor

/- Walk of the reference's Check of timetables. -/
namespace Go.Proofs.YtdpcjafkahhecaaGreatDoor
open Go.RowKit Go.Shelf Go.Maps
set_option linter.unusedSimpArgs false
set_option linter.unusedVariables false

theorem any_take2 {α : Type} {D : List α} {U : α → Bool} {k : Nat} {d : α} (h : D[k]? = some d) : (D.take (k + 1)).any U = ((D.take k).any U || U d) := by
  obtain ⟨hk, rfl⟩ := List.getElem?_eq_some_iff.1 h
  rw [← List.take_append_getElem hk, List.any_append]
  simp only [List.any_cons, List.any_nil, Bool.or_false]
theorem rdec_small8 (k : Nat) (h : k < 100) (w : World) : Calls Tryz.prog 42 #[.int .i64 (k : Int)] w fun e w' => e = .returned (.string (decA k)) ∧ Below w.heap.size w w' :=
  (rdecimal_any (k : Int) w (by omega) (by omega)).mono (by rintro e w' ⟨rfl, n, rfl⟩; exact ⟨rfl, below_drewN (Below.refl _ _) n⟩)
set_option maxRecDepth 100000 in
set_option maxHeartbeats 8000000 in
theorem rscheck_any (p : PV) (v : Value) (fs : List FV) (w : World) (hL : AirL w p.A p.l) (hv : TblL w v fs) (hlen : fs.length ≤ 90)
    (hpb : ∀ f ∈ fs, (-9223372036854775808 ≤ f.pf ∧ f.pf ≤ 9223372036854775807) ∧ (-9223372036854775808 ≤ f.pt ∧ f.pt ≤ 9223372036854775807) ∧ (-9223372036854775808 ≤ f.pd ∧ f.pd ≤ 9223372036854775807))
    (hok : ∀ f ∈ fs, (chF p.l f).length ≤ 1000 ∧ ∀ x ∈ chF p.l f, x.2.size ≤ 1000)
    (KC : ∀ f ∈ fs, ∀ W, Below w.heap.size w W → Calls Tryz.prog 58 #[encP p, encFl f] W fun e w' => ∃ v, e = .returned v ∧ FOwn W.heap.size w' v (chF p.l f) ∧ Below W.heap.size W w') :
    Calls Tryz.prog 26 #[encP p, v] w fun e w' => ∃ r, e = .returned r ∧ FOwn w.heap.size w' r (schF p.l fs fs.length) ∧ Below w.heap.size w w' := by
  obtain ⟨A, c, rfl, _⟩ := id hv.row
  have hb1 := bel_alloc w (.cells #[.slice p.A p.l.length p.ca, .slice p.D p.ds.length p.cd] placesT)
  have p0 := (cells_new w #[.slice p.A p.l.length p.ca, .slice p.D p.ds.length p.cd] placesT 0).trans (show _ = some (Value.slice p.A p.l.length p.ca) from rfl)
  have p1 := (cells_new w #[.slice p.A p.l.length p.ca, .slice p.D p.ds.length p.cd] placesT 1).trans (show _ = some (Value.slice p.D p.ds.length p.cd) from rfl)
  have hsz1 : (w.alloc (.cells #[.slice p.A p.l.length p.ca, .slice p.D p.ds.length p.cd] placesT)).heap.size = w.heap.size + 1 := by simp
  have HV := Lib.hid (hv.more hb1)
  have HB1 := Lib.hid hb1
  have HOK := Lib.hid hok
  have HPB := Lib.hid hpb
  have HKC := Lib.hid KC
  have HSF := Lib.hid (schF_le p.l fs (fun f hf => (hok f hf).1))
  clear hv hok KC hb1 hpb
  go_enter Tryz.func26, Tryz.ntmps26
  go_upto_region 1 with fail
  generalize hw1 : w.alloc (.cells #[.slice p.A p.l.length p.ca, .slice p.D p.ds.length p.cd] placesT) = w1 at *
  clear hw1
  have HS1 := Lib.hid hsz1
  have F0 := Lib.hid (bel_get p0)
  have F1 := Lib.hid (bel_get p1)
  clear p0 p1 hsz1
  go_wp2
  go_loopw [5, 6] (fun s0 vi wr => ∃ k : Nat, k ≤ fs.length ∧ vi = .int .i64 k ∧ Hid (FOwn w1.heap.size wr s0 (schF p.l fs k) ∧ Below w1.heap.size w1 wr)) (fun _ vi _ => fs.length - (intOf vi).toNat)
  case atStart => exact ⟨0, Nat.zero_le _, rfl, Lib.hid ⟨ROwn.nil (Nat.le_refl _), Below.refl _ _⟩⟩
  case round =>
    obtain ⟨s0, hs0⟩ : ∃ s, s = u5 := ⟨_, rfl⟩
    subst hs0
    obtain ⟨k, hk, rfl, HK⟩ := hrel
    obtain ⟨hO, hbk⟩ := HK.out
    by_cases hlt : k < fs.length
    · obtain ⟨f, hf⟩ : ∃ f, fs[k]? = some f := ⟨_, List.getElem?_eq_getElem hlt⟩
      have hfm := List.mem_of_getElem? hf
      have HF := Lib.hid hf
      have HFM := Lib.hid hfm
      have hvk := HV.out.row.more hbk
      obtain ⟨b, o, e1, hbl, hc⟩ := RowL.at6 hvk hf
      cases e1
      have i2 : (k : Int) < (fs.length : Int) := by omega
      have HSU := Lib.hid (schF_succ p.l fs k f hf)
      have KI := Lib.hid (rdec_small8 k (by omega))
      have hadd : ∀ W : World, (Op.stringOp .add ⟨#[102, 108, 105, 103, 104, 116, 32]⟩ (decA k)).run Tryz.prog W = .ok (.string (fliW ++ decA k)) W := fun W => run_string_add_sum W _ _ (by have := decA_size k (by omega); have e : (⟨#[102, 108, 105, 103, 104, 116, 32]⟩ : ByteArray).size = 7 := rfl; omega)
      obtain ⟨tx, htx⟩ : ∃ t, t = fliW ++ decA k := ⟨_, rfl⟩
      have htz : tx.size ≤ 28 := by
        rw [htx, ByteArray.size_append]
        have := decA_size k (by omega)
        have e : fliW.size = 7 := rfl
        omega
      rw [← htx] at hadd HSU
      clear htx hf hfm HK
      generalize decA k = sk at *
      have HC := Lib.hid hc
      have HVK := Lib.hid hvk
      have HO := Lib.hid hO
      have HBK := Lib.hid hbk
      clear hc hvk hO hbk hbl
      go_upto_region 6 with (go_at_call 42; refine (KI.out _).mono ?_; rintro e w2 ⟨rfl, hbD⟩)
      have hO2 := HO.out.more hbD
      have HB2 := Lib.hid (HBK.out.trans (hbD.mono HBK.out.size))
      have d0 : ∀ W, SW w2 W → W.cell? ⟨b, o + k * 6, none⟩ = some (.string f.car) := fun W h => bel_cell (Below.mono h (Nat.le_refl _)) (bel_cell hbD (HC.out 0 _ rfl))
      have d1 : ∀ W, SW w2 W → W.cell? ⟨b, o + k * 6 + 1, none⟩ = some (.int .i64 f.num) := fun W h => bel_cell (Below.mono h (Nat.le_refl _)) (bel_cell hbD (HC.out 1 _ rfl))
      have d2 : ∀ W, SW w2 W → W.cell? ⟨b, o + k * 6 + 2, none⟩ = some (.int .i64 f.pf) := fun W h => bel_cell (Below.mono h (Nat.le_refl _)) (bel_cell hbD (HC.out 2 _ rfl))
      have d3 : ∀ W, SW w2 W → W.cell? ⟨b, o + k * 6 + 3, none⟩ = some (.int .i64 f.pt) := fun W h => bel_cell (Below.mono h (Nat.le_refl _)) (bel_cell hbD (HC.out 3 _ rfl))
      have d4 : ∀ W, SW w2 W → W.cell? ⟨b, o + k * 6 + 4, none⟩ = some (.int .i64 f.pd) := fun W h => bel_cell (Below.mono h (Nat.le_refl _)) (bel_cell hbD (HC.out 4 _ rfl))
      have d5 : ∀ W, SW w2 W → W.cell? ⟨b, o + k * 6 + 5, none⟩ = some (.slice f.A f.lg.length f.c) := fun W h => bel_cell (Below.mono h (Nat.le_refl _)) (bel_cell hbD (HC.out 5 _ rfl))
      have f0 : ∀ W, SW w2 W → W.cell? ⟨w.heap.size, 0, none⟩ = some (.slice p.A p.l.length p.ca) := fun W h => F0.out W (Below.trans HB2.out (Below.mono h HB2.out.size))
      have f1 : ∀ W, SW w2 W → W.cell? ⟨w.heap.size, 1, none⟩ = some (.slice p.D p.ds.length p.cd) := fun W h => F1.out W (Below.trans HB2.out (Below.mono h HB2.out.size))
      have KC2 : Hid (∀ W, SW w2 W → Calls Tryz.prog 58 #[encP p, encFl f] W fun e w' => ∃ v, e = .returned v ∧ FOwn W.heap.size w' v (chF p.l f) ∧ Below W.heap.size W w') := Lib.hid (fun W h => HKC.out f HFM.out W (HB1.out.trans ((HB2.out.trans (Below.mono h HB2.out.size)).mono HB1.out.size)))
      have hchl := (HOK.out f HFM.out).1
      obtain ⟨C, hC⟩ : ∃ C, C = chF p.l f := ⟨_, rfl⟩
      have HCM : Hid (∀ x ∈ C, x.2.size ≤ 1000) := Lib.hid (by rw [hC]; exact (HOK.out f HFM.out).2)
      rw [← hC] at KC2 HSU hchl
      have HO2 := Lib.hid hO2
      have HVK2 := Lib.hid (HVK.out.more hbD)
      clear hC hbD hO2
      have hS : (SW w2) _ := SW.drew _
      refine wp_region_held_drew (S := SW w2) (by kernel_rfl) hS (fun _ => ?_)
      refine wpAnyH_take (i := 0) (v := ?vR0) rfl (by kernel_rfl) (by kernel_rfl) (by kernel_rfl) (fun _ _ _ h => h) (Or.inl ⟨by rfl, ?hyR0⟩) hS ?restR0
      case hyR0 =>
        intro w hSw
        have k0 := f0 w hSw; have k1 := f1 w hSw
        first | (go_simp; done) | (go_simp; with_reducible rfl)
      try simp only [Act.put, List.setIfInBounds_toArray, List.set_cons_zero, List.set_cons_succ]
      refine wpAnyH_take (i := 1) (v := ?vR1) rfl (by kernel_rfl) (by kernel_rfl) (by kernel_rfl) (fun _ _ _ h => h) (Or.inl ⟨by rfl, ?hyR1⟩) hS ?restR1
      case hyR1 =>
        intro w hSw
        first | (go_simp; done) | (go_simp; with_reducible rfl)
      try simp only [Act.put, List.setIfInBounds_toArray, List.set_cons_zero, List.set_cons_succ]
      refine wpAnyH_take (i := 2) (v := ?vR2) rfl (by kernel_rfl) (by kernel_rfl) (by kernel_rfl) (fun _ _ _ h => h) (Or.inl ⟨by rfl, ?hyR2⟩) hS ?restR2
      case hyR2 =>
        intro w hSw
        first | (go_simp; done) | (go_simp; with_reducible rfl)
      try simp only [Act.put, List.setIfInBounds_toArray, List.set_cons_zero, List.set_cons_succ]
      refine wpAnyH_take (i := 3) (v := ?vR3) rfl (by kernel_rfl) (by kernel_rfl) (by kernel_rfl) (fun _ _ _ h => h) (Or.inl ⟨by rfl, ?hyR3⟩) hS ?restR3
      case hyR3 =>
        intro w hSw
        first | (go_simp; done) | (go_simp; with_reducible rfl)
      try simp only [Act.put, List.setIfInBounds_toArray, List.set_cons_zero, List.set_cons_succ]
      refine wpAnyH_take (i := 4) (v := ?vR4) rfl (by kernel_rfl) (by kernel_rfl) (by kernel_rfl) (fun _ _ _ h => h) (Or.inl ⟨by rfl, ?hyR4⟩) hS ?restR4
      case hyR4 =>
        intro w hSw
        have k0 := d0 w hSw; have k1 := d1 w hSw; have k2 := d2 w hSw; have k3 := d3 w hSw; have k4 := d4 w hSw; have k5 := d5 w hSw
        first | (go_simp; done) | (go_simp; with_reducible rfl)
      try simp only [Act.put, List.setIfInBounds_toArray, List.set_cons_zero, List.set_cons_succ]
      refine wpAnyH_ready (rs := [5]) (by kernel_rfl) (by simp) ?_
      refine AllReadyH.cons rfl (fun K hK => ?_) AllReadyH.nil
      go_simp
      go_wp2_with ((go_at_call 58; refine (KC2.out _ hS).mono ?_; rintro e w9 ⟨v9, rfl, hO9, hb9⟩; have hSz9 := hS.size; have hS : SW w2 w9 := Below.trans hS (Below.mono hb9 hS.size)))
      refine hK.out _ _ hS (fun _ => ?_)
      clear hK K
      refine wpAnyH_take (i := 6) (v := ?vR6) rfl (by kernel_rfl) (by kernel_rfl) (by kernel_rfl) (fun _ _ _ h => h) (Or.inl ⟨by rfl, ?hyR6⟩) hS ?restR6
      case hyR6 =>
        intro w hSw
        first | (go_simp; done) | (go_simp; with_reducible rfl)
      try simp only [Act.put, List.setIfInBounds_toArray, List.set_cons_zero, List.set_cons_succ]
      refine wpAnyH_done (by kernel_rfl) ?_ _
      simp only [List.getElem_toArray, List.getElem_cons_succ, List.getElem_cons_zero, List.set_cons_zero, List.set_cons_succ]
      obtain ⟨A9, c9, rfl, _⟩ := id (hO9.rowL rtF.len)
      have HR9 := Lib.hid (hO9.rowL rtF.len)
      have HB9 : Hid (Below w2.heap.size w2 w9) := Lib.hid hS
      have HO9 := Lib.hid (HO2.out.more hS)
      have HLOW : Hid (∀ b2 o2, A9 = some ⟨b2, o2, none⟩ → C ≠ [] → w2.heap.size ≤ b2) := Lib.hid (fun b2 o2 e hne => by
        obtain ⟨g2, c2, e2, h2, _⟩ := ROwn.formG hO9 hne
        cases e2
        cases e
        exact Nat.le_trans hSz9 h2)
      have hadd1 : ∀ W : World, (Op.stringOp .add tx ⟨#[32]⟩).run Tryz.prog W = .ok (.string (tx ++ spW)) W := fun W => run_string_add_sum W _ _ (by have e : (⟨#[32]⟩ : ByteArray).size = 1 := rfl; omega)
      have HSL : Hid ((schF p.l fs k).length ≤ 100000) := Lib.hid (by have := HSF.out k; omega)
      clear hS hO9 d0 d1 d2 d3 d4 d5 f0 f1 hadd
      go_wp2
      go_loopw [5, 9] (fun s1 vj wq => ∃ j : Nat, j ≤ C.length ∧ vj = .int .i64 j ∧ Hid (FOwn w1.heap.size wq s1 (schF p.l fs k ++ preF tx (C.take j)) ∧ Chg w9 wq s0 s1)) (fun _ vj _ => C.length - (intOf vj).toNat)
      case atStart => exact ⟨0, Nat.zero_le _, rfl, Lib.hid ⟨by simpa [preF] using HO9.out, Chg.refl _ _⟩⟩
      case round =>
        obtain ⟨s1, hs1⟩ : ∃ s, s = u5 := ⟨_, rfl⟩
        subst hs1
        obtain ⟨j, hj, rfl, HJ⟩ := hrel
        obtain ⟨hO, hchg⟩ := HJ.out
        by_cases hltj : j < C.length
        · obtain ⟨x, hx⟩ : ∃ x, C[j]? = some x := ⟨_, List.getElem?_eq_getElem hltj⟩
          have hne : C ≠ [] := by intro h; rw [h] at hltj; simp at hltj
          obtain ⟨b9, o9, rfl, hb9, hc9⟩ := RowL.at0 HR9.out hne
          have hnb9' : s0.ownBlock ≠ some b9 := fun h => by
            have h1 := (HO2.out.low h).2
            have h2 := HLOW.out b9 o9 rfl hne
            omega
          have hnbS : s1.ownBlock ≠ some b9 := fun h => by
            rcases hchg.own _ h with h1 | h1
            · exact hnb9' h1
            · omega
          have x0 := hchg.cell (hc9 j x 0 _ hx rfl) hnb9'
          have x1 := hchg.cell (hc9 j x 1 _ hx rfl) hnb9'
          rw [Nat.add_zero] at x0
          have j2 : (j : Int) < (C.length : Int) := by omega
          have xs := HCM.out x (List.mem_of_getElem? hx)
          have HPT := Lib.hid (preF_take tx C hx)
          have hadd2 : ∀ W : World, (Op.stringOp .add (tx ++ spW) x.2).run Tryz.prog W = .ok (.string ((tx ++ spW) ++ x.2)) W := fun W => run_string_add_sum W _ _ (by rw [ByteArray.size_append]; have e : spW.size = 1 := rfl; omega)
          have HLb : Hid ((schF p.l fs k ++ preF tx (C.take j)).length ≤ 1000000) := Lib.hid (by rw [List.length_append, preF_len, List.length_take]; have := HSL.out; omega)
          have HLb2 : Hid ((schF p.l fs k ++ preF tx (C.take j)).length ≤ 100000000) := Lib.hid (Nat.le_trans HLb.out (by omega))
          obtain ⟨e1, t1⟩ := x
          dsimp only at *
          have X0 : ∀ W, SX wr s1 W → W.cell? ⟨b9, o9 + j * 2, none⟩ = some (.int .i64 e1) := fun W h => SX.cell x0 hnbS h
          have X1 : ∀ W, SX wr s1 W → W.cell? ⟨b9, o9 + j * 2 + 1, none⟩ = some (.string t1) := fun W h => SX.cell x1 hnbS h
          have hO := hO.more (Below.refl _ wr).drew
          have HCG := Lib.hid (hchg.trans (Chg.of_below (Below.refl _ wr).drew))
          clear hx hc9 HJ hchg x0 x1
          go_upto_region 10 with (fail)
          have hS : (SX wr s1) _ := But.of_below (Below.refl _ _).drew
          refine wp_region_held_drew (S := SX wr s1) (by kernel_rfl) hS (fun _ => ?_)
          refine wpAnyH_take (i := 0) (v := ?vX0) rfl (by kernel_rfl) (by kernel_rfl) (by kernel_rfl) (fun _ _ _ h => h) (Or.inl ⟨by rfl, ?hyX0⟩) hS ?restX0
          case hyX0 =>
            intro w hSw
            first | (go_simp; done) | (go_simp; with_reducible rfl)
          try simp only [Act.put, List.setIfInBounds_toArray, List.set_cons_zero, List.set_cons_succ]
          refine wpAnyH_take (i := 1) (v := ?vX1) rfl (by kernel_rfl) (by kernel_rfl) (by kernel_rfl) (fun _ _ _ h => h) (Or.inl ⟨by rfl, ?hyX1⟩) hS ?restX1
          case hyX1 =>
            intro w hSw
            first | (go_simp; done) | (go_simp; with_reducible rfl)
          try simp only [Act.put, List.setIfInBounds_toArray, List.set_cons_zero, List.set_cons_succ]
          refine wpAnyH_take (i := 2) (v := ?vX2) rfl (by kernel_rfl) (by kernel_rfl) (by kernel_rfl) (fun _ _ _ h => h) (Or.inl ⟨by rfl, ?hyX2⟩) hS ?restX2
          case hyX2 =>
            intro w hSw
            first | (go_simp; done) | (go_simp; with_reducible rfl)
          try simp only [Act.put, List.setIfInBounds_toArray, List.set_cons_zero, List.set_cons_succ]
          refine wpAnyH_take (i := 3) (v := ?vX3) rfl (by kernel_rfl) (by kernel_rfl) (by kernel_rfl) (fun _ _ _ h => h) (Or.inl ⟨by rfl, ?hyX3⟩) hS ?restX3
          case hyX3 =>
            intro w hSw
            first | (go_simp; done) | (go_simp; with_reducible rfl)
          try simp only [Act.put, List.setIfInBounds_toArray, List.set_cons_zero, List.set_cons_succ]
          refine wpAnyH_take (i := 4) (v := ?vX4) rfl (by kernel_rfl) (by kernel_rfl) (by kernel_rfl) (fun _ _ _ h => h) (Or.inl ⟨by rfl, ?hyX4⟩) hS ?restX4
          case hyX4 =>
            intro w hSw
            first | (go_simp; done) | (go_simp; with_reducible rfl)
          try simp only [Act.put, List.setIfInBounds_toArray, List.set_cons_zero, List.set_cons_succ]
          refine wpAnyH_take (i := 5) (v := ?vX5) rfl (by kernel_rfl) (by kernel_rfl) (by kernel_rfl) (fun _ _ _ h => h) (Or.inl ⟨by rfl, ?hyX5⟩) hS ?restX5
          case hyX5 =>
            intro w hSw
            have k0 := X0 w hSw
            first | (go_simp; done) | (go_simp; with_reducible rfl)
          try simp only [Act.put, List.setIfInBounds_toArray, List.set_cons_zero, List.set_cons_succ]
          refine wpAnyH_take (i := 6) (v := ?vX6) rfl (by kernel_rfl) (by kernel_rfl) (by kernel_rfl) (fun _ _ _ h => h) (Or.inl ⟨by rfl, ?hyX6⟩) hS ?restX6
          case hyX6 =>
            intro w hSw
            first | (go_simp; done) | (go_simp; with_reducible rfl)
          try simp only [Act.put, List.setIfInBounds_toArray, List.set_cons_zero, List.set_cons_succ]
          refine wpAnyH_take (i := 7) (v := ?vX7) rfl (by kernel_rfl) (by kernel_rfl) (by kernel_rfl) (fun _ _ _ h => h) (Or.inl ⟨by rfl, ?hyX7⟩) hS ?restX7
          case hyX7 =>
            intro w hSw
            have kadd := hadd1 w
            first | (go_simp; done) | (go_simp; with_reducible rfl)
          try simp only [Act.put, List.setIfInBounds_toArray, List.set_cons_zero, List.set_cons_succ]
          refine wpAnyH_take (i := 8) (v := ?vX8) rfl (by kernel_rfl) (by kernel_rfl) (by kernel_rfl) (fun _ _ _ h => h) (Or.inl ⟨by rfl, ?hyX8⟩) hS ?restX8
          case hyX8 =>
            intro w hSw
            first | (go_simp; done) | (go_simp; with_reducible rfl)
          try simp only [Act.put, List.setIfInBounds_toArray, List.set_cons_zero, List.set_cons_succ]
          refine wpAnyH_take (i := 9) (v := ?vX9) rfl (by kernel_rfl) (by kernel_rfl) (by kernel_rfl) (fun _ _ _ h => h) (Or.inl ⟨by rfl, ?hyX9⟩) hS ?restX9
          case hyX9 =>
            intro w hSw
            first | (go_simp; done) | (go_simp; with_reducible rfl)
          try simp only [Act.put, List.setIfInBounds_toArray, List.set_cons_zero, List.set_cons_succ]
          refine wpAnyH_take (i := 10) (v := ?vX10) rfl (by kernel_rfl) (by kernel_rfl) (by kernel_rfl) (fun _ _ _ h => h) (Or.inl ⟨by rfl, ?hyX10⟩) hS ?restX10
          case hyX10 =>
            intro w hSw
            first | (go_simp; done) | (go_simp; with_reducible rfl)
          try simp only [Act.put, List.setIfInBounds_toArray, List.set_cons_zero, List.set_cons_succ]
          refine wpAnyH_take (i := 11) (v := ?vX11) rfl (by kernel_rfl) (by kernel_rfl) (by kernel_rfl) (fun _ _ _ h => h) (Or.inl ⟨by rfl, ?hyX11⟩) hS ?restX11
          case hyX11 =>
            intro w hSw
            first | (go_simp; done) | (go_simp; with_reducible rfl)
          try simp only [Act.put, List.setIfInBounds_toArray, List.set_cons_zero, List.set_cons_succ]
          refine wpAnyH_take (i := 12) (v := ?vX12) rfl (by kernel_rfl) (by kernel_rfl) (by kernel_rfl) (fun _ _ _ h => h) (Or.inl ⟨by rfl, ?hyX12⟩) hS ?restX12
          case hyX12 =>
            intro w hSw
            have k0 := X1 w hSw
            first | (go_simp; done) | (go_simp; with_reducible rfl)
          try simp only [Act.put, List.setIfInBounds_toArray, List.set_cons_zero, List.set_cons_succ]
          refine wpAnyH_take (i := 13) (v := ?vX13) rfl (by kernel_rfl) (by kernel_rfl) (by kernel_rfl) (fun _ _ _ h => h) (Or.inl ⟨by rfl, ?hyX13⟩) hS ?restX13
          case hyX13 =>
            intro w hSw
            have kadd := hadd2 w
            first | (go_simp; done) | (go_simp; with_reducible rfl)
          try simp only [Act.put, List.setIfInBounds_toArray, List.set_cons_zero, List.set_cons_succ]
          refine wpAnyH_take (i := 14) (v := ?vX14) rfl (by kernel_rfl) (by kernel_rfl) (by kernel_rfl) (fun _ _ _ h => h) (Or.inl ⟨by rfl, ?hyX14⟩) hS ?restX14
          case hyX14 =>
            intro w hSw
            first | (go_simp; done) | (go_simp; with_reducible rfl)
          try simp only [Act.put, List.setIfInBounds_toArray, List.set_cons_zero, List.set_cons_succ]
          refine wpAnyH_ready (rs := [15]) (by kernel_rfl) (by simp) ?_
          refine AllReadyH.cons rfl (fun K hK => ?_) AllReadyH.nil
          go_simp
          have hSp := hS
          have hS := hS.on (bel_alloc _ (.cells #[.int .i64 e1, .string ((tx ++ spW) ++ t1)] fltT))
          refine hK.out _ _ hS (fun _ => ?_)
          clear hK K
          refine wpAnyH_ready (rs := [16]) (by kernel_rfl) (by simp) ?_
          refine AllReadyH.cons rfl (fun K hK => ?_) AllReadyH.nil
          refine step_rapp rtF rfl _ _ rfl hO rfl (bel_alloc _ _) _ (e1, (tx ++ spW) ++ t1) _ rfl (cs := #[.int .i64 e1, .string ((tx ++ spW) ++ t1)]) rfl (heap_alloc_new _ _) HLb2.out ?_
          intro v8 w8 hO8 hC8
          go_simp
          have hS := hSp.trans hC8.but (fun _ _ h => h)
          refine hK.out _ _ hS (fun _ => ?_)
          clear hK K
          refine wpAnyH_take (i := 17) (v := ?vX17) rfl (by kernel_rfl) (by kernel_rfl) (by kernel_rfl) (fun _ _ _ h => h) (Or.inl ⟨by rfl, ?hyX17⟩) hS ?restX17
          case hyX17 =>
            intro w hSw
            first | (go_simp; done) | (go_simp; with_reducible rfl)
          try simp only [Act.put, List.setIfInBounds_toArray, List.set_cons_zero, List.set_cons_succ]
          refine wpAnyH_done (by kernel_rfl) ?_ _
          simp only [List.getElem_toArray, List.getElem_cons_succ, List.getElem_cons_zero, List.set_cons_zero, List.set_cons_succ]
          have HY : Hid (FOwn w1.heap.size w8 v8 (schF p.l fs k ++ preF tx (C.take (j + 1))) ∧ Chg w9 w8 s0 v8) := Lib.hid ⟨by rw [HPT.out, ← List.append_assoc]; exact hO8, HCG.out.trans hC8⟩
          clear hO8 hC8 hS hSp hO
          go_wp2
          go_roundw
          case rel => exact ⟨j + 1, by omega, by go_num, HY⟩
          case measure => simp [intOf]; omega
        · have hj' : j = C.length := by omega
          have j2 : ¬ (j : Int) < (C.length : Int) := by omega
          rw [hj', List.take_length] at hO
          have HOq := Lib.hid hO
          have HBq : Hid (Below w1.heap.size w1 wr) := Lib.hid (HB2.out.trans ((HB9.out.mono HB2.out.size).trans (hchg.below HO9.out)))
          have HVq : Hid (RowL 6 encF6 wr (.slice (some ⟨b, o, none⟩) fs.length c) fs) := Lib.hid (HV.out.row.more HBq.out)
          clear hO hchg HJ hj'
          go_wp2
          obtain ⟨wz, hwz⟩ : ∃ x, x = wr := ⟨_, rfl⟩
          subst hwz
          go_loopw [10, 11] (fun v0 vm wq => ∃ m : Nat, m ≤ k ∧ vm = .int .i64 m ∧ v0 = .bool ((fs.take m).any (fun g => mtsB g f)) ∧ SW wz wq) (fun _ vm _ => k - (intOf vm).toNat)
          case atStart => exact ⟨0, Nat.zero_le _, rfl, rfl, Below.refl _ _⟩
          case round =>
            obtain ⟨m, hm, rfl, rfl, hSm⟩ := hrel
            have HSm := Lib.hid hSm
            by_cases hltm : m < k
            · obtain ⟨g, hg⟩ : ∃ g, fs[m]? = some g := ⟨_, List.getElem?_eq_getElem (by omega)⟩
              have hm2 : (m : Int) < (k : Int) := by omega
              have hm3 : (m : Int) < (fs.length : Int) := by omega
              obtain ⟨bg, og, eg, _, hcg⟩ := RowL.at6 (HVq.out.more hSm) hg
              cases eg
              obtain ⟨bf, of_, ef, _, hcf⟩ := RowL.at6 (HVq.out.more hSm) HF.out
              cases ef
              have g0 := hcg 0 _ rfl
              have f0 := hcf 0 _ rfl
              have g1 := hcg 1 _ rfl
              have f1 := hcf 1 _ rfl
              have g2 := hcg 2 _ rfl
              have f2 := hcf 2 _ rfl
              have g3 := hcg 3 _ rfl
              have f3 := hcf 3 _ rfl
              have g4 := hcg 4 _ rfl
              have f4 := hcf 4 _ rfl
              have g5 := hcg 5 _ rfl
              have f5 := hcf 5 _ rfl
              rw [Nat.add_zero] at g0 f0
              have g0 := SW.cell g0
              have f0 := SW.cell f0
              have g1 := SW.cell g1
              have f1 := SW.cell f1
              have g2 := SW.cell g2
              have f2 := SW.cell f2
              have g3 := SW.cell g3
              have f3 := SW.cell f3
              have g4 := SW.cell g4
              have f4 := SW.cell f4
              have g5 := SW.cell g5
              have f5 := SW.cell f5
              have KM : Hid (∀ W, SW wr W → Calls Tryz.prog 59 #[encFl g, encFl f] W fun e w' => e = .returned (.bool (mtsB g f)) ∧ SW wr w') := Lib.hid (fun W h => (rmeets_any g f W (HPB.out g (List.mem_of_getElem? hg))).mono (by rintro e w' ⟨rfl, hb⟩; exact ⟨rfl, Below.trans h (Below.mono hb h.size)⟩))
              have HAN := Lib.hid (any_take2 (U := fun g => mtsB g f) hg)
              obtain ⟨tm, htm⟩ : ∃ t, t = mtsB g f := ⟨_, rfl⟩
              rw [← htm] at KM HAN
              clear hg hcg hcf htm hSm
              cases hA : (fs.take m).any (fun g => mtsB g f)
              all_goals
                rw [hA] at HAN
                clear hA
                go_wp2
                have hNe : Nonempty (Wd (SW wr)) := ⟨⟨_, SW.drew _⟩⟩
                refine quietS (S := SW wr) (by kernel_rfl) (by kernel_rfl) (SW.drew _) ?_
                repeat (first | go_big_quiet_skip | (go_big_quiet_want; go_big_quiet_op; first | go_big_quiet_on | go_big_quiet_call ((go_at_call 59; exact quiet_S (KM.out _ (Wd.ok _))))))
                refine wpQuiet_nil ?_
                rintro W ⟨⟨_, hW⟩, rfl⟩
                go_wp2
                go_roundw
                case rel => exact ⟨m + 1, by omega, by go_num, by rw [HAN.out]; first | rfl | simp, Below.trans HSm.out (Below.mono hW HSm.out.size)⟩
                case measure => simp [intOf]; omega
            · have hm' : m = k := by omega
              have hm2 : ¬ (m : Int) < (k : Int) := by omega
              have hO := HOq.out.more hSm
              have hB := HBq.out.trans (hSm.mono HBq.out.size)
              have HLc : Hid ((schF p.l fs k ++ preF tx C).length ≤ 100000000) := Lib.hid (by rw [List.length_append, preF_len]; have := HSL.out; omega)
              have HTB : Hid ((fs.take m).any (fun g => mtsB g f) = twcB (fs.take k) f) := Lib.hid (by rw [hm', twc_iff])
              obtain ⟨tb, htb⟩ : ∃ t, t = (fs.take m).any (fun g => mtsB g f) := ⟨_, rfl⟩
              rw [← htb] at HTB ⊢
              have HO3 := Lib.hid hO
              have HB3 := Lib.hid hB
              clear htb hO hB hSm hm'
              cases tb with
              | false =>
                have HSU2 : Hid (schF p.l fs (k + 1) = schF p.l fs k ++ preF tx C) := Lib.hid (by rw [HSU.out, ← HTB.out]; show _ ++ (_ ++ pick tx [0]) = _; rw [pick_zero, List.append_nil])
                go_wp2
                go_roundw
                case rel => exact ⟨k + 1, by omega, by go_num, Lib.hid ⟨by rw [HSU2.out]; exact HO3.out, HB3.out⟩⟩
                case measure => simp [intOf]; omega
              | true =>
                have HSU2 : Hid (schF p.l fs (k + 1) = (schF p.l fs k ++ preF tx C) ++ [(6, tx)]) := Lib.hid (by rw [HSU.out, ← HTB.out]; show _ ++ (_ ++ pick tx [6]) = _; rw [pick_one _ _ (by omega), List.append_assoc])
                go_wp2_with (at_builtin; refine wpList_rapp rtF rfl _ _ rfl HO3.out rfl (bel_alloc _ _) _ (6, tx) _ rfl (cs := #[.int .i64 6, .string tx]) rfl (heap_alloc_new _ _) HLc.out ?_; intro v8 w8 hO8 hC8)
                go_roundw
                case rel => exact ⟨k + 1, by omega, by go_num, Lib.hid ⟨by rw [HSU2.out]; exact hO8, HB3.out.trans (hC8.below HO3.out)⟩⟩
                case measure => simp [intOf]; omega
    · have hk' : k = fs.length := by omega
      have i2 : ¬ (k : Int) < (fs.length : Int) := by omega
      rw [hk'] at hO
      clear hk'
      go_wp2
      go_ret
      exact ⟨_, rfl, ⟨hO.own.mono (by have := HS1.out; omega), Nat.le_trans (by have := HS1.out; omega) hO.base⟩, HB1.out.trans (hbk.mono HB1.out.size)⟩

end Go.Proofs.YtdpcjafkahhecaaGreatDoor

/- Walk of Operated. -/
namespace Go.Proofs.YtdpcjafkahhecaaGreatDoor
open Go.RowKit Go.Shelf
set_option linter.unusedSimpArgs false
set_option linter.unusedVariables false

end Go.Proofs.YtdpcjafkahhecaaGreatDoor

/- Plain words for the laws of timetables: days that differ, texts of violations. -/
namespace Go.Proofs.YtdpcjafkahhecaaGreatDoor
open Go.RowKit Go.Shelf
set_option linter.unusedSimpArgs false
set_option linter.unusedVariables false

theorem pick_mem {s : ByteArray} {es : List Int} {x : Flt} (h : x ∈ pick s es) : x.2 = s ∧ x.1 ≠ 0 := by
  unfold pick okE at h
  obtain ⟨e, h1, rfl⟩ := List.mem_map.1 h
  have h2 := (List.mem_filter.1 h1).2
  exact ⟨rfl, by simpa using h2⟩
theorem printL_len (n : Int) : (printL n).length ≤ 100 := by
  unfold printL
  split
  · simp [dateL, twoL]
  · simp
theorem badD_mem {l : List Air} {lg : List Lg} : ∀ {D : List Int} {x : Flt}, x ∈ badD l lg D → x.2.size ≤ 1000 ∧ x.1 ≠ 0
  | [], x, h => by cases h
  | d :: r, x, h => by
    unfold badD at h
    split at h
    · exact badD_mem h
    · simp only [List.mem_singleton] at h
      subst h
      refine ⟨?_, by show (13 : Int) ≠ 0; omega⟩
      have := printL_len d
      show (dayW ++ ⟨(printL d).toArray⟩ : ByteArray).size ≤ 1000
      rw [ByteArray.size_append]
      show 4 + (printL d).toArray.size ≤ 1000
      simp; omega
theorem chF_mem {l : List Air} {f : FV} (hn : f.lg.length ≤ 90) {x : Flt} (h : x ∈ chF l f) : x.2.size ≤ 1000 ∧ x.1 ≠ 0 := by
  have hd : ∀ x ∈ hdF f, x.2.size ≤ 1000 ∧ x.1 ≠ 0 := fun x hx => by
    unfold hdF at hx
    rcases List.mem_append.1 hx with hx | hx
    · obtain ⟨h1, h2⟩ := pick_mem hx; rw [h1]; exact ⟨by decide, h2⟩
    rcases List.mem_append.1 hx with hx | hx
    · obtain ⟨h1, h2⟩ := pick_mem hx; rw [h1]; exact ⟨by decide, h2⟩
    · obtain ⟨h1, h2⟩ := pick_mem hx; rw [h1]; exact ⟨by decide, h2⟩
  have lg : ∀ x ∈ lgsF l f.lg f.lg.length, x.2.size ≤ 1000 ∧ x.1 ≠ 0 := fun x hx => by
    unfold lgsF at hx
    obtain ⟨i, hi, hx⟩ := List.mem_flatMap.1 hx
    have hi := List.mem_range.1 hi
    rw [List.getElem?_eq_getElem hi] at hx
    obtain ⟨h1, h2⟩ := pick_mem hx
    rw [h1]
    refine ⟨?_, h2⟩
    have := decA_size i (by omega)
    rw [ByteArray.size_append]
    show 4 + (decA i).size ≤ 1000
    omega
  unfold chF at h
  split at h
  · split at h
    · exact badD_mem h
    · rcases List.mem_append.1 h with h | h
      · exact hd _ h
      · exact lg _ h
  · rcases List.mem_append.1 h with h | h
    · exact hd _ h
    · obtain ⟨h1, h2⟩ := pick_mem h; rw [h1]; exact ⟨by decide, h2⟩

end Go.Proofs.YtdpcjafkahhecaaGreatDoor

/- Walks of the reference's leaves for flights: out, broken, head. -/
namespace Go.Proofs.YtdpcjafkahhecaaGreatDoor
open Go.RowKit Go.Shelf
set_option linter.unusedSimpArgs false
set_option linter.unusedVariables false

theorem rout_any (n : Int) (w : World) : Calls Tryz.prog 93 #[.int .i64 n] w fun e w' => e = .returned (.bool (!minB n)) ∧ w = w' := by
  have HU : Hid ((!minB n) = (decide (n < -1440) || decide (5759 < n))) := Lib.hid (by
    unfold minB
    by_cases h1 : -1440 ≤ n <;> by_cases h2 : n ≤ 5759 <;> simp [h1, h2] <;> omega)
  by_cases h1 : n < -1440
  all_goals
    go_enter Tryz.func93, Tryz.ntmps93
    go_wp2
    go_ret
    exact ⟨ret_bool (by rw [HU.out]; first | (simp [h1]; done) | (simp [h1]; omega)), rfl⟩

theorem next_or (l : List Lg) (k : Nat) (x : Lg) (h : l[k]? = some x) : (!nextB (l.take k) x) = (badF (l.take k) x || (l.take (k + 1)).any (fun b => b.f.toList == x.t.toList)) := by
  rw [any_take _ l k x h]
  unfold nextB
  have e : (x.t.toList == x.f.toList) = (x.f.toList == x.t.toList) := by
    by_cases h : x.f.toList = x.t.toList
    · simp [h]
    · have h2 : ¬ x.t.toList = x.f.toList := fun e => h e.symm
      rw [beq_eq_false_iff_ne.2 h, beq_eq_false_iff_ne.2 h2]
  rw [e]
  cases badF (l.take k) x <;> cases (l.take k).any (fun b => b.f.toList == x.t.toList) <;> cases (x.f.toList == x.t.toList) <;> rfl
theorem any_up {q : Lg → Bool} {l : List Lg} {j k : Nat} {y : Lg} (h : l[j]? = some y) (hq : q y = true) (hjk : j ≤ k) : (l.take (k + 1)).any q = true := by
  rw [List.any_eq_true]
  refine ⟨y, ?_, hq⟩
  have : (l.take (k + 1))[j]? = some y := by rw [List.getElem?_take, if_pos (by omega)]; exact h
  exact List.mem_of_getElem? this

set_option maxRecDepth 100000 in
set_option maxHeartbeats 4000000 in
theorem rbroken_any (A : Option Addr) (c : Nat) (l : List Lg) (k : Nat) (x : Lg) (w : World) (hl : l.length ≤ 1000) (hL : LegL w (.slice A l.length c) l) (hx : l[k]? = some x) :
    Calls Tryz.prog 92 #[.slice A l.length c, .int .i64 (k : Int)] w fun e w' => e = .returned (.bool (!nextB (l.take k) x)) ∧ Below w.heap.size w w' := by
  have HN := Lib.hid (next_or l k x hx)
  have hk : k < l.length := (List.getElem?_eq_some_iff.1 hx).1
  obtain ⟨b, o, x', rfl, hbl, hx', c0, c1, c2, c3, c4⟩ := LegL.get hL hk
  rw [hx] at hx'
  obtain rfl := Option.some.inj hx'
  have i0 : (k : Int) < (l.length : Int) := by omega
  have fx0 := SW.cell c0
  have fx1 := SW.cell c1
  clear c0 c1 c2 c3 c4
  have HX := Lib.hid hx
  clear hx
  go_enter Tryz.func92, Tryz.ntmps92
  go_upto_region 1 with fail
  go_cut [21] from 6 (fun v wx => v = .bool (badF (l.take k) x) ∧ SW w wx)
  case first =>
    by_cases h0 : k = 0
    · have hE : badF (l.take k) x = false := by rw [h0]; rfl
      have HE := Lib.hid hE
      have i1 : ¬ (0 : Int) < (k : Int) := by omega
      have hdec : decide (0 < k) = false := decide_eq_false (by omega)
      clear hE h0
      have hNe : Nonempty (Wd (SW w)) := ⟨⟨_, SW.drew _⟩⟩
      refine quietS (S := SW w) (by kernel_rfl) (by kernel_rfl) (SW.drew _) ?_
      repeat (first | go_big_quiet_skip | (go_big_quiet_want; go_big_quiet_op; first | go_big_quiet_on | go_big_quiet_call ((fail))))
      refine wpQuiet_nil ?_
      rintro W ⟨⟨_, hW⟩, rfl⟩
      go_wp2
      go_meet
      exact ⟨by rw [HE.out], hW⟩
    · obtain ⟨b', o', y, e, hbl', hy, c0, c1, c2, c3, c4⟩ := LegL.get hL (show k - 1 < l.length by omega)
      cases e
      have hE : badF (l.take k) x = !(x.f.toList == y.t.toList) := by
        unfold badF
        rw [List.getLast?_eq_getElem?, List.length_take, Nat.min_eq_left (by omega), List.getElem?_take, if_pos (by omega), hy]
      have HE := Lib.hid hE
      have i1 : (0 : Int) < (k : Int) := by omega
      have hdec : decide (0 < k) = true := decide_eq_true (by omega)
      have i2 : ((k : Int) - 1) = ((k - 1 : Nat) : Int) := by omega
      have i3 : ((k - 1 : Nat) : Int) < (l.length : Int) := by omega
      have fy := SW.cell c1
      clear hE h0 hy c0 c1 c2 c3 c4
      generalize k - 1 = last at *
      have hNe : Nonempty (Wd (SW w)) := ⟨⟨_, SW.drew _⟩⟩
      refine quietS (S := SW w) (by kernel_rfl) (by kernel_rfl) (SW.drew _) ?_
      repeat (first | go_big_quiet_skip | (go_big_quiet_want; go_big_quiet_op; first | go_big_quiet_on | go_big_quiet_call ((fail))))
      refine wpQuiet_nil ?_
      rintro W ⟨⟨_, hW⟩, rfl⟩
      go_wp2
      go_meet
      exact ⟨by rw [HE.out], hW⟩
  case rest =>
    obtain ⟨rfl, hS⟩ := hcut
    cases hbf : badF (l.take k) x
    · rw [hbf] at HN
      clear hbf
      have HL := Lib.hid hL
      clear hL
      go_wp2
      go_loopw [5] (fun vi wr => ∃ j : Nat, j ≤ k + 1 ∧ vi = .int .i64 j ∧ Hid ((l.take j).any (fun b => b.f.toList == x.t.toList) = false) ∧ SW w wr) (fun vi _ => k + 1 - (intOf vi).toNat)
      case atStart => exact ⟨0, by omega, rfl, Lib.hid rfl, hS⟩
      case round =>
        obtain ⟨j, hj, rfl, HJ, hSr⟩ := hrel
        by_cases hlt : j ≤ k
        · obtain ⟨b', o', y, e, hbl', hy, c0, c1, c2, c3, c4⟩ := LegL.get (HL.out.more hSr) (show j < l.length by omega)
          cases e
          have i1 : (j : Int) ≤ (k : Int) := by omega
          have i2 : (j : Int) < (l.length : Int) := by omega
          have hT := any_take (fun b => b.f.toList == x.t.toList) l j y hy
          have fy := SW.cell c0
          have fx := SW.cell (fx1 ⟨wr, hSr⟩)
          have HU : Hid ((y.f.toList == x.t.toList) = true → (l.take (k + 1)).any (fun b => b.f.toList == x.t.toList) = true) := Lib.hid (fun h => any_up hy h hlt)
          have HT := Lib.hid hT
          clear hT hy c0 c1 c2 c3 c4
          cases hq : (y.f.toList == x.t.toList)
          · have HJ2 : Hid ((l.take (j + 1)).any (fun b => b.f.toList == x.t.toList) = false) := Lib.hid (by rw [HT.out, HJ.out]; simpa using hq)
            go_wp2
            have hNe : Nonempty (Wd (SW wr)) := ⟨⟨_, SW.drew _⟩⟩
            refine quietS (S := SW wr) (by kernel_rfl) (by kernel_rfl) (SW.drew _) ?_
            repeat (first | go_big_quiet_skip | (go_big_quiet_want; go_big_quiet_op; first | go_big_quiet_on | go_big_quiet_call ((fail))))
            refine wpQuiet_nil ?_
            rintro W ⟨⟨_, hW⟩, rfl⟩
            go_wp2
            go_roundw
            case rel => exact ⟨j + 1, by omega, by go_num, HJ2, Below.trans hSr (Below.mono hW hSr.size)⟩
            case measure => simp [intOf]; omega
          · have HR : Hid ((!nextB (l.take k) x) = true) := Lib.hid (by rw [HN.out, HU.out hq]; rfl)
            go_wp2
            have hNe : Nonempty (Wd (SW wr)) := ⟨⟨_, SW.drew _⟩⟩
            refine quietS (S := SW wr) (by kernel_rfl) (by kernel_rfl) (SW.drew _) ?_
            repeat (first | go_big_quiet_skip | (go_big_quiet_want; go_big_quiet_op; first | go_big_quiet_on | go_big_quiet_call ((fail))))
            refine wpQuiet_nil ?_
            rintro W ⟨⟨_, hW⟩, rfl⟩
            go_wp2
            go_ret
            exact ⟨ret_bool HR.out.symm, Below.trans hSr (Below.mono hW hSr.size)⟩
        · have e : j = k + 1 := by omega
          have HR : Hid ((!nextB (l.take k) x) = false) := Lib.hid (by rw [HN.out, ← e, HJ.out]; rfl)
          have i1 : ¬ (j : Int) ≤ (k : Int) := by omega
          clear e
          go_wp2
          go_ret
          exact ⟨ret_bool HR.out.symm, hSr⟩
    · rw [hbf] at HN
      go_wp2
      go_ret
      exact ⟨ret_bool (by rw [HN.out]; rfl), hS⟩

end Go.Proofs.YtdpcjafkahhecaaGreatDoor

/- Walk of the reference's head of a flight. -/
namespace Go.Proofs.YtdpcjafkahhecaaGreatDoor
open Go.RowKit Go.Shelf
set_option linter.unusedSimpArgs false
set_option linter.unusedVariables false

/-- the violations of a flight without its legs, with the count of legs -/
def hdR (f : FV) : List Flt := hdF f ++ pick lgsW [if (!cntB f.lg.length) = true then 4 else 0]
set_option maxRecDepth 100000 in
set_option maxHeartbeats 8000000 in
theorem rhead_any (f : FV) (w : World) (hc0 : f.car.size ≤ maxLen) :
    Calls Tryz.prog 89 #[encFl f] w fun e w' => ∃ v, e = .returned v ∧ FOwn w.heap.size w' v (hdR f) ∧ Below w.heap.size w w' := by
  obtain ⟨HR, hHR⟩ : ∃ H, H = hdR f := ⟨_, rfl⟩
  rw [← hHR]
  obtain ⟨x0, hx0⟩ : ∃ x : Int, x = (if (!carB f.car) = true then 5 else 0) := ⟨_, rfl⟩
  obtain ⟨x1, hx1⟩ : ∃ x : Int, x = (if (!numB f.num) = true then 2 else 0) := ⟨_, rfl⟩
  obtain ⟨x2, hx2⟩ : ∃ x : Int, x = Per.errQ (f.pf, f.pt, f.pd) := ⟨_, rfl⟩
  obtain ⟨x3, hx3⟩ : ∃ x : Int, x = (if (!cntB f.lg.length) = true then 4 else 0) := ⟨_, rfl⟩
  have HHR : Hid (HR = [] ++ pick carW [x0] ++ pick numW [x1] ++ pick perW [x2] ++ pick lgsW [x3]) := Lib.hid (by rw [hHR, hdR, hdF, hx0, hx1, hx2, hx3]; simp)
  clear hHR
  have hb1 := bel_alloc w (.cells #[.string f.car, .int .i64 f.num, .int .i64 f.pf, .int .i64 f.pt, .int .i64 f.pd, .slice f.A f.lg.length f.c] fliT)
  have q0 := (cells_new w #[.string f.car, .int .i64 f.num, .int .i64 f.pf, .int .i64 f.pt, .int .i64 f.pd, .slice f.A f.lg.length f.c] fliT 0).trans (show _ = some (.string f.car) from rfl)
  have q1 := (cells_new w #[.string f.car, .int .i64 f.num, .int .i64 f.pf, .int .i64 f.pt, .int .i64 f.pd, .slice f.A f.lg.length f.c] fliT 1).trans (show _ = some (.int .i64 f.num) from rfl)
  have q2 := (cells_new w #[.string f.car, .int .i64 f.num, .int .i64 f.pf, .int .i64 f.pt, .int .i64 f.pd, .slice f.A f.lg.length f.c] fliT 2).trans (show _ = some (.int .i64 f.pf) from rfl)
  have q3 := (cells_new w #[.string f.car, .int .i64 f.num, .int .i64 f.pf, .int .i64 f.pt, .int .i64 f.pd, .slice f.A f.lg.length f.c] fliT 3).trans (show _ = some (.int .i64 f.pt) from rfl)
  have q4 := (cells_new w #[.string f.car, .int .i64 f.num, .int .i64 f.pf, .int .i64 f.pt, .int .i64 f.pd, .slice f.A f.lg.length f.c] fliT 4).trans (show _ = some (.int .i64 f.pd) from rfl)
  have q5 := (cells_new w #[.string f.car, .int .i64 f.num, .int .i64 f.pf, .int .i64 f.pt, .int .i64 f.pd, .slice f.A f.lg.length f.c] fliT 5).trans (show _ = some (.slice f.A f.lg.length f.c) from rfl)
  have KC := Lib.hid (fun w => rcarrier_any f.car w hc0)
  have KP := Lib.hid (fun w => Per.rcheck_any f.pf f.pt f.pd w)
  rw [← hx2] at KP
  have HX0 := Lib.hid hx0
  have HX1 := Lib.hid hx1
  have HX3 := Lib.hid hx3
  have hbw := hb1.size
  clear hx0 hx1 hx2 hx3
  go_enter Tryz.func89, Tryz.ntmps89
  go_upto_region 2 with fail
  generalize hw5 : w.alloc (.cells #[.string f.car, .int .i64 f.num, .int .i64 f.pf, .int .i64 f.pt, .int .i64 f.pd, .slice f.A f.lg.length f.c] fliT) = w5 at *
  clear hw5
  have f1 := bel_get q1
  have f2 := bel_get q2
  have f3 := bel_get q3
  have f4 := bel_get q4
  have f5 := bel_get q5
  clear q1 q2 q3 q4 q5
  generalize hbc : carB f.car = bc at *
  go_upto_if 7 with (go_at_call 66; refine (KC.out _).mono ?_; rintro e w1 ⟨rfl, rfl⟩)
  go_cut [3] from 4 (fun v wx => Hid (FOwn w5.heap.size wx v ([] ++ pick carW [x0]) ∧ SW w5 wx))
  case first =>
    have hO : FOwn w5.heap.size w5 (.slice none 0 0) [] := ROwn.nil (Nat.le_refl _)
    cases bc with
    | true =>
      have HX : Hid (x0 = 0) := Lib.hid (by rw [HX0.out]; rfl)
      go_wp2
      go_meet
      exact Lib.hid ⟨by rw [HX.out]; exact hO, Below.refl _ _⟩
    | false =>
      have HX : Hid (x0 = 5) := Lib.hid (by rw [HX0.out]; rfl)
      go_wp2_with (at_builtin; refine wpList_rapp rtF rfl _ _ rfl hO rfl (bel_alloc _ _) _ (5, carW) _ rfl (cs := #[.int .i64 5, .string carW]) rfl (heap_alloc_new _ _) (by simp) ?_; intro v1 w1 hO1 hC1)
      go_meet
      exact Lib.hid ⟨by rw [HX.out]; exact hO1, hC1.below hO⟩
  case rest =>
    have hO := hcut.out.1
    have hS := hcut.out.2
    have k1 := f1 _ hS
    clear hcut
    go_upto_region 4 with fail
    go_cut [19] from 4 (fun v wx => v = .bool (!numB f.num) ∧ wx = wc)
    case first =>
      have HU : Hid ((!numB f.num) = (decide (f.num < 1) || decide (9999 < f.num))) := Lib.hid (by
        unfold numB
        by_cases h1 : 1 ≤ f.num <;> by_cases h2 : f.num ≤ 9999 <;> simp [h1, h2] <;> omega)
      by_cases h1 : f.num < 1
      · go_wp2
        go_meet
        exact ⟨by rw [HU.out]; first | (simp [h1]; done) | (simp [h1]; omega), rfl⟩
      · go_wp2
        go_meet
        exact ⟨by rw [HU.out]; first | (simp [h1]; done) | (simp [h1]; omega), rfl⟩
    case rest =>
      obtain ⟨rfl, hwc⟩ := hcut
      obtain rfl := hwc
      generalize hbn : numB f.num = bn at *
      go_upto_if 19 with fail
      have HLn : Hid (([] ++ pick carW [x0]).length ≤ 100000000) := Lib.hid (by have h0 := pick_le carW [x0]; have h1 := pick_le numW [x1]; have h2 := pick_le perW [x2]; simp only [List.length_append, List.length_cons, List.length_nil] at h0 h1 h2 ⊢; omega)
      go_cut [3] from 4 (fun v wx => Hid (FOwn w5.heap.size wx v ([] ++ pick carW [x0] ++ pick numW [x1]) ∧ SW w5 wx))
      case first =>
        cases bn with
        | true =>
          have HX : Hid (x1 = 0) := Lib.hid (by rw [HX1.out]; rfl)
          go_wp2
          go_meet
          exact Lib.hid ⟨by rw [HX.out]; simpa [pick_zero] using hO, hS⟩
        | false =>
          have HX : Hid (x1 = 2) := Lib.hid (by rw [HX1.out]; rfl)
          go_wp2_with (at_builtin; refine wpList_rapp rtF rfl _ _ rfl hO rfl (bel_alloc _ _) _ (2, numW) _ rfl (cs := #[.int .i64 2, .string numW]) rfl (heap_alloc_new _ _) HLn.out ?_; intro v1 w1 hO1 hC1)
          go_meet
          exact Lib.hid ⟨by rw [HX.out]; exact hO1, Below.trans hS (hC1.below hO)⟩
      case rest =>
        have hO := hcut.out.1
        have hS := hcut.out.2
        have k2 := f2 _ hS
        have k3 := f3 _ hS
        have k4 := f4 _ hS
        clear hcut HLn
        go_upto_region 6 with fail
        go_cut [27] from 4 (fun v wx => v = .bool (x2 != 0) ∧ SW wc wx)
        case first =>
          go_wp2_with (go_at_call 67; refine (KP.out _).mono ?_; rintro e w2 ⟨rfl, hb2⟩)
          go_meet
          exact ⟨rfl, hb2⟩
        case rest =>
          obtain ⟨rfl, hS2⟩ := hcut
          have hO := hO.more hS2
          have hS : SW w5 wc := Below.trans hS (Below.mono hS2 hS.size)
          have k2 := f2 _ hS
          have k3 := f3 _ hS
          have k4 := f4 _ hS
          clear hS2
          have HLn : Hid (([] ++ pick carW [x0] ++ pick numW [x1]).length ≤ 100000000) := Lib.hid (by have h0 := pick_le carW [x0]; have h1 := pick_le numW [x1]; have h2 := pick_le perW [x2]; simp only [List.length_append, List.length_cons, List.length_nil] at h0 h1 h2 ⊢; omega)
          go_upto_if 27 with fail
          go_cut [3] from 4 (fun v wx => Hid (FOwn w5.heap.size wx v ([] ++ pick carW [x0] ++ pick numW [x1] ++ pick perW [x2]) ∧ SW w5 wx))
          case first =>
            cases hb : (x2 != 0) with
            | false =>
              have HX : Hid (x2 = 0) := Lib.hid (by simpa using hb)
              go_wp2
              go_meet
              exact Lib.hid ⟨by rw [HX.out]; simpa [pick_zero] using hO, hS⟩
            | true =>
              have HX : Hid (x2 ≠ 0) := Lib.hid (by simpa using hb)
              go_wp2_with (first
                | (go_at_call 67; refine (KP.out _).mono ?_; rintro e w2 ⟨rfl, hb2⟩; have hO := hO.more hb2; have hS : SW w5 w2 := Below.trans hS (Below.mono hb2 hS.size))
                | (at_builtin; refine wpList_rapp rtF rfl _ _ rfl hO rfl (bel_alloc _ _) _ (x2, perW) _ rfl (cs := #[.int .i64 x2, .string perW]) rfl (heap_alloc_new _ _) HLn.out ?_; intro v1 w1 hO1 hC1))
              go_meet
              exact Lib.hid ⟨by rw [pick_one perW x2 HX.out]; exact hO1, Below.trans hS (hC1.below hO)⟩
          case rest =>
            have hO := hcut.out.1
            have hS := hcut.out.2
            have k5 := f5 _ hS
            clear hcut HLn
            go_upto_region 8 with fail
            go_cut [44] from 4 (fun v wx => v = .bool (!cntB f.lg.length) ∧ wx = wc)
            case first =>
              have HU : Hid ((!cntB f.lg.length) = (decide ((f.lg.length : Int) < 1) || decide ((6 : Int) < (f.lg.length : Int)))) := Lib.hid (by
                unfold cntB
                by_cases h1 : 1 ≤ f.lg.length <;> by_cases h2 : f.lg.length ≤ 6 <;> simp [h1, h2] <;> omega)
              by_cases h1 : (f.lg.length : Int) < 1
              · go_wp2
                go_meet
                exact ⟨by rw [HU.out]; first | (simp [h1]; done) | (simp [h1]; omega), rfl⟩
              · go_wp2
                go_meet
                exact ⟨by rw [HU.out]; first | (simp [h1]; done) | (simp [h1]; omega), rfl⟩
            case rest =>
              obtain ⟨rfl, hwc⟩ := hcut
              obtain rfl := hwc
              generalize hbl : cntB f.lg.length = bl at *
              have HLn : Hid (([] ++ pick carW [x0] ++ pick numW [x1] ++ pick perW [x2]).length ≤ 100000000) := Lib.hid (by have h0 := pick_le carW [x0]; have h1 := pick_le numW [x1]; have h2 := pick_le perW [x2]; simp only [List.length_append, List.length_cons, List.length_nil] at h0 h1 h2 ⊢; omega)
              have hbB : Below w.heap.size w w5 := hb1
              cases bl with
              | true =>
                have HX : Hid (x3 = 0) := Lib.hid (by rw [HX3.out]; rfl)
                have HZ : Hid (HR = [] ++ pick carW [x0] ++ pick numW [x1] ++ pick perW [x2]) := Lib.hid (by rw [HHR.out, HX.out, pick_zero, List.append_nil])
                go_wp2
                go_ret
                exact ⟨_, rfl, by rw [HZ.out]; exact ⟨hO.own.mono hbB.size, Nat.le_trans hbB.size hO.base⟩, hbB.trans (Below.mono hS hbB.size)⟩
              | false =>
                have HX : Hid (x3 = 4) := Lib.hid (by rw [HX3.out]; rfl)
                have HZ : Hid (HR = [] ++ pick carW [x0] ++ pick numW [x1] ++ pick perW [x2] ++ [(4, lgsW)]) := Lib.hid (by rw [HHR.out, HX.out]; rfl)
                go_wp2_with (at_builtin; refine wpList_rapp rtF rfl _ _ rfl hO rfl (bel_alloc _ _) _ (4, lgsW) _ rfl (cs := #[.int .i64 4, .string lgsW]) rfl (heap_alloc_new _ _) HLn.out ?_; intro v1 w1 hO1 hC1)
                go_ret
                exact ⟨v1, rfl, by rw [HZ.out]; exact ⟨hO1.own.mono hbB.size, Nat.le_trans hbB.size hO1.base⟩, hbB.trans ((Below.trans hS (hC1.below hO)).mono hbB.size)⟩

end Go.Proofs.YtdpcjafkahhecaaGreatDoor
