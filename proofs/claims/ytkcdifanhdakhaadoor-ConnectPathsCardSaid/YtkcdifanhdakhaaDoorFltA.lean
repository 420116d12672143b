/- Walks of fault.When, fault.Add and of the law's SameFaults. -/
import Derived.Test.YtkcdifanhdakhaaDoorFltP
import Derived.Test.YtkcdifanhdakhaaDoorOwnR
namespace Go.Proofs.YtkcdifanhdakhaaDoor
open Go.RowKit Go.Shelf
set_option linter.unusedSimpArgs false
set_option linter.unusedVariables false

abbrev fltT : TypeId := 57
def encF (x : Flt) : List Value := [.int .i64 x.1, .string x.2]
theorem rtF : RT Tryd.prog 38 fltT 2 encF where
  ht := Tryd.underlying38
  info := ⟨.agg #[.int .i64 0, .string noB], 24, by kernel_rfl, rfl, by omega⟩
  len x := rfl
  one x u hu := by simp [encF] at hu; rcases hu with rfl | rfl <;> rfl
  pos := by omega
abbrev FOwn (B : Nat) (w : World) (v : Value) (l : List Flt) : Prop := ROwn fltT 2 encF B w v l
abbrev FltL (w : World) (v : Value) (l : List Flt) : Prop := RowL 2 encF w v l

theorem fwhen_any (b : Bool) (e : Int) (w : World) : Calls Tryd.prog 30 #[.bool b, .int .i64 e] w fun r w' => r = .returned (.int .i64 (if b then e else 0)) ∧ w = w' := by
  cases b <;>
  · go_enter Tryd.func30, Tryd.ntmps30
    go_wp2
    go_ret
    exact ⟨rfl, rfl⟩

theorem pick_take_succ (s : ByteArray) (es : List Int) (k : Nat) (h : k < es.length) : pick s (es.take (k + 1)) = pick s (es.take k) ++ pick s [es[k]] := by
  rw [← pick_app, ← List.take_append_getElem h]

set_option maxRecDepth 100000 in
set_option maxHeartbeats 4000000 in
theorem fadd_any (B : Nat) (v : Value) (l : List Flt) (s : ByteArray) (b n c : Nat) (es : List Int) (w : World) (hF : FOwn B w v l) (hn : es.length = n) (hn2 : n ≤ 10) (hz : ∀ k (h : k < es.length), w.cell? ⟨b, k, none⟩ = some (.int .i64 es[k])) (hne : v.ownBlock ≠ some b) (hl : l.length ≤ 1000000) :
    Calls Tryd.prog 28 #[v, .string s, .slice (some ⟨b, 0, none⟩) n c] w fun e w' => ∃ v', e = .returned v' ∧ FOwn B w' v' (l ++ pick s es) ∧ Chg w w' v v' := by
  have HZ := Lib.hid hz
  have HF := Lib.hid hF
  have HNE := Lib.hid hne
  clear hz hF hne
  go_enter Tryd.func28, Tryd.ntmps28
  go_wp2
  go_loopw [0, 11] (fun s0 vi wr => ∃ (k : Nat), k ≤ n ∧ vi = .int .i64 k ∧ Hid (FOwn B wr s0 (l ++ pick s (es.take k)) ∧ Chg w wr v s0)) (fun _ vi _ => n - (intOf vi).toNat)
  case atStart => exact ⟨0, Nat.zero_le _, rfl, Lib.hid ⟨by simpa [pick, okE] using HF.out, Chg.refl _ _⟩⟩
  case round =>
    obtain ⟨k, hk, rfl, HH⟩ := hrel
    by_cases hlt : k < n
    · have i1 : (k : Int) < (n : Int) := by omega
      have hke : k < es.length := by omega
      have z0 := HH.out.2.cell (HZ.out k hke) HNE.out
      have HP := Lib.hid (pick_take_succ s es k hke)
      by_cases he : es[k] = 0
      · rw [he] at z0
        have HP2 : Hid (pick s (es.take (k + 1)) = pick s (es.take k)) := Lib.hid (by rw [HP.out, he, pick_zero, List.append_nil])
        clear HP he
        go_wp2
        go_roundw
        case rel => exact ⟨k + 1, by omega, by go_num, Lib.hid (by rw [HP2.out]; exact HH.out)⟩
        case measure => simp [intOf]; omega
      · have hb : (es[k] != 0) = true := by simpa using he
        have HP2 : Hid (pick s (es.take (k + 1)) = pick s (es.take k) ++ [(es[k], s)]) := Lib.hid (by rw [HP.out, pick_one s _ he])
        generalize es[k] = x at *
        have hlen : (l ++ pick s (es.take k)).length ≤ 100000000 := by
          have := pick_le s (es.take k)
          have := List.length_take_le k es
          rw [List.length_append]
          omega
        clear HP he hke
        go_wp2_with (at_builtin; refine wpList_rapp rtF rfl _ _ rfl HH.out.1 rfl (bel_alloc _ _) _ (x, s) _ rfl (cs := #[.int .i64 x, .string s]) rfl (heap_alloc_new _ _) hlen ?_; intro v' w' hO hC)
        go_roundw
        case rel => exact ⟨k + 1, by omega, by go_num, Lib.hid ⟨by rw [HP2.out, ← List.append_assoc]; exact hO, HH.out.2.trans hC⟩⟩
        case measure => simp [intOf]; omega
    · have hkn : k = n := by omega
      have HE : Hid (es.take k = es) := Lib.hid (List.take_of_length_le (by omega))
      go_wp2
      go_ret
      exact ⟨_, rfl, by have := HH.out; rw [HE.out] at this; exact this⟩

end Go.Proofs.YtkcdifanhdakhaaDoor
