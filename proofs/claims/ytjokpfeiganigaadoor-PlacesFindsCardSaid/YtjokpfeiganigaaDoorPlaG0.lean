/- Walk of the law's Small. -/
import Derived.Test.YtjokpfeiganigaaDoorPlaB
namespace Go.Proofs.YtjokpfeiganigaaDoor
open Go.RowKit Go.Shelf
set_option linter.unusedSimpArgs false
set_option linter.unusedVariables false

def smallB (p : PV) : Bool := decide (p.l.length ≤ 40) && decide (p.ds.length ≤ 60) && p.l.all fun a => decide (a.shs.length ≤ 40)
theorem small_take (l : List Air) (k : Nat) (a : Air) (h : l[k]? = some a) (hp : (l.take k).all (fun a => decide (a.shs.length ≤ 40)) = true) (ha : a.shs.length ≤ 40) : (l.take (k + 1)).all (fun a => decide (a.shs.length ≤ 40)) = true := by
  rw [List.take_add_one, h, List.all_append, hp]
  simp [ha]

set_option maxRecDepth 100000 in
set_option maxHeartbeats 4000000 in
theorem small_any (p : PV) (w : World) (hL : AirL w p.A p.l) (h1 : p.l.length < 9223372036854775808) (h2 : p.ds.length < 9223372036854775808) (h3 : ∀ a ∈ p.l, a.shs.length < 9223372036854775808) :
    Calls Tryd.prog 10 #[encP p] w fun e w' => e = .returned (.bool (smallB p)) ∧ Below w.heap.size w w' := by
  obtain ⟨A, ca, l, D, cd, ds⟩ := p
  dsimp only at *
  have hb0 := bel_alloc w (.cells #[.slice A l.length ca, .slice D ds.length cd] placesT)
  have p0 := cells_new w #[.slice A l.length ca, .slice D ds.length cd] placesT 0
  have p1 := cells_new w #[.slice A l.length ca, .slice D ds.length cd] placesT 1
  simp only [List.getElem?_toArray, List.getElem?_cons_zero, List.getElem?_cons_succ] at p0 p1
  have hL5 := hL.more hb0
  by_cases hA : l.length ≤ 40
  · have i1 : ¬ (40 : Int) < (l.length : Int) := by omega
    by_cases hD : ds.length ≤ 60
    · have i2 : ¬ (60 : Int) < (ds.length : Int) := by omega
      have HB : Hid (smallB ⟨A, ca, l, D, cd, ds⟩ = l.all fun a => decide (a.shs.length ≤ 40)) := Lib.hid (by simp [smallB, hA, hD])
      go_enter Tryd.func10, Tryd.ntmps10
      go_wp2
      generalize w.alloc (.cells #[.slice A l.length ca, .slice D ds.length cd] placesT) = w5 at *
      go_loop [3] (fun vi => ∃ k : Nat, k ≤ l.length ∧ vi = .int .i64 k ∧ Hid ((l.take k).all (fun a => decide (a.shs.length ≤ 40)) = true)) (fun vi => l.length - (intOf vi).toNat)
      case atStart => exact ⟨0, Nat.zero_le _, rfl, Lib.hid rfl⟩
      case round =>
        obtain ⟨k, hk, rfl, HK⟩ := hrel
        by_cases hlt : k < l.length
        · obtain ⟨bb, off, a, rfl, hgl, hka, ha⟩ := hL5.at hlt
          have i3 : (k : Int) < (l.length : Int) := by omega
          have a4 := ha.c4
          have h3a := h3 a (List.mem_of_getElem? hka)
          by_cases hs : a.shs.length ≤ 40
          · have i4 : ¬ (40 : Int) < (a.shs.length : Int) := by omega
            have HN := Lib.hid (small_take l k a hka HK.out hs)
            clear ha hka hL hL5
            go_wp2
            go_round
            case rel => exact ⟨k + 1, by omega, by go_num, HN⟩
            case measure => simp [intOf]; omega
          · have i4 : (40 : Int) < (a.shs.length : Int) := by omega
            have HN : Hid ((l.all fun a => decide (a.shs.length ≤ 40)) = false) := Lib.hid (by
              rw [List.all_eq_false]
              exact ⟨a, List.mem_of_getElem? hka, by simp [hs]⟩)
            clear ha hka hL hL5
            go_wp2
            go_ret
            exact ⟨ret_bool (by rw [HB.out, HN.out]), hb0⟩
        · have e : l.take k = l := List.take_of_length_le (by omega)
          go_wp2
          go_ret
          exact ⟨ret_bool (by rw [HB.out, ← HK.out, e]), hb0⟩
    · have i2 : (60 : Int) < (ds.length : Int) := by omega
      have HB : Hid (smallB ⟨A, ca, l, D, cd, ds⟩ = false) := Lib.hid (by simp [smallB, hD])
      go_enter Tryd.func10, Tryd.ntmps10
      go_wp2
      go_ret
      exact ⟨ret_bool (by rw [HB.out]), hb0⟩
  · have i1 : (40 : Int) < (l.length : Int) := by omega
    have HB : Hid (smallB ⟨A, ca, l, D, cd, ds⟩ = false) := Lib.hid (by simp [smallB, hA])
    go_enter Tryd.func10, Tryd.ntmps10
    go_wp2
    go_ret
    exact ⟨ret_bool (by rw [HB.out]), hb0⟩

end Go.Proofs.YtjokpfeiganigaaDoor
