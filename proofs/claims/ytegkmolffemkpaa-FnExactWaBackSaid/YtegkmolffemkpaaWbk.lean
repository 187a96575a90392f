/-
  Automata backwards: what they are; the contracts of the model's l6Turn.
-/
import Derived.Test.YtegkmolffemkpaaWaV
import Derived.Test.YtegkmolffemkpaaTurnI
namespace Go.Proofs.Ytegkmolffemkpaa
open Go.RowKit
def backM (M : List (List Int)) : List (List Int) := (List.range M.length).map (colM M)
theorem backM_len (M : List (List Int)) : (backM M).length = M.length := by simp [backM]
theorem backM_get (M : List (List Int)) (j : Nat) (h : j < M.length) : (backM M)[j]? = some (colM M j) := by
  unfold backM; rw [List.getElem?_map, List.getElem?_range h]; rfl
theorem specTurn6 (A : Option Addr) (n c b o : Nat) (M : List (List Int)) (w : World) (h : RA w A n b o M) (hn8 : n ≤ 8) (hM : ∀ r ∈ M, r.length = n) :
    Calls Try.prog 68 #[.slice A n c] w (MadeM (backM M).length (backM M) w) := by
  have hbig := h.big
  have H := Lib.hid h
  have HLL := Lib.hid h.len
  have HRW := Lib.hid (show ∀ row ∈ M, row.length = n ∧ True from fun r hr => ⟨hM r hr, trivial⟩)
  clear h hM
  go_enter Try.func68, Try.ntmps68
  go_wp2_with (fail)
  go_loopw [3, 4] (fun v i wr => ∃ (j : Nat) (A' : Option Addr) (c' : Nat) (vs : List Value), j ≤ n ∧ i = .int .i64 j ∧ v = .slice A' j c' ∧ OM wr w.heap.size A' j c' ((backM M).take j) vs ∧ Below w.heap.size w wr) (fun _ i _ => n - (intOf i).toNat)
  case atStart => exact ⟨0, _, _, [], by omega, rfl, rfl, OM.empty w, (Below.refl _ _).alloc (Nat.le_refl _) _⟩
  case round =>
    obtain ⟨j, A', c', vs, hj, rfl, rfl, hown, hbel⟩ := hrel
    obtain ⟨wo, rfl⟩ : ∃ wo : World, wo = wr := ⟨_, rfl⟩
    by_cases hlt : j < n
    · obtain rfl := H.out.adr (by omega)
      have HO := Lib.hid hown
      have HB := Lib.hid hbel
      have hs0 := hbel.size
      clear hown hbel
      go_wp2_with (fail)
      go_loopw [5, 6] (fun v i wi => ∃ (k : Nat) (A1 : Option Addr) (c1 : Nat), k ≤ n ∧ i = .int .i64 k ∧ v = .slice A1 k c1 ∧ OI wi wo.heap.size A1 k c1 ((colM M j).take k) ∧ Below wo.heap.size wo wi) (fun _ i _ => n - (intOf i).toNat)
      case atStart => exact ⟨0, _, _, by omega, rfl, rfl, OI.empty wo, (Below.refl _ _).alloc (Nat.le_refl _) _⟩
      case round =>
        obtain ⟨k, A1, c1, hk, rfl, rfl, hrow, hbi⟩ := hrel
        have hsi := hbi.size
        by_cases hlk : k < n
        · obtain ⟨row, A2, c2, b2, o2, hr, hc, hI⟩ := (H.out.below (HB.out.trans (hbi.mono hs0))).row k hlk
          have hrl := (HRW.out row (List.mem_of_getElem? hr)).1
          obtain ⟨x, hx, hxc⟩ := hI.cell j (by omega)
          obtain rfl := hI.adr (by omega)
          rw [hrl] at hc
          have HS := Lib.hid (take_snoc _ k x (colM_get hr hx))
          have HR := Lib.hid hrow
          have HBI := Lib.hid hbi
          clear hr hI hx hrow hbi hrl
          go_wp2_with (at_builtin; refine wpList_app_int rfl (.tmp 21) (.tmp 29) rfl wo.heap.size A1 k c1 _ rfl (HR.out.alloc _) x _ _ rfl ?_ (by omega) ?_ ?_)
          · simp
          · simp; omega
          · intro A3 c3 w3 hI3 hK3
            rw [HS.out] at hI3
            have HI3 := Lib.hid hI3
            have HB3 := Lib.hid ((HBI.out.alloc hsi (.cells #[.int .i64 x] 3)).trans (hK3.below (B := wo.heap.size) (by simp; omega) (fun g hg => ((HR.out.alloc (.cells #[.int .i64 x] 3)).lt g hg).1)))
            clear hI3 hK3
            go_wp2_with (fail)
            go_roundw
            case rel => exact ⟨k + 1, _, _, by omega, by go_num, rfl, HI3.out, HB3.out⟩
            case measure => simp [intOf]; omega
        · obtain rfl : k = n := by omega
          have e : (colM M j).take k = colM M j := List.take_of_length_le (by rw [colM_len, HLL.out]; omega)
          rw [e] at hrow
          have HR := Lib.hid hrow
          have HBI := Lib.hid hbi
          have HCL := Lib.hid (show (colM M j).length = k by rw [colM_len, HLL.out])
          clear e hrow hbi
          go_wp2_with (at_builtin; refine wpList_app_row rfl (.tmp 31) (.tmp 33) rfl w.heap.size A' j c' vs rfl (World.ownsRow.alloc (owns_below HO.out.out HBI.out) _) A1 k c1 _ _ rfl ?_ (by omega) ?_ ?_)
          · simp
          · simp; omega
          · intro A3 c3 w3 ho3 hK3
            have hp := HO.out.push (HBI.out.alloc hsi (.cells #[.slice A1 k c1] 23)) (row := colM M j) (A1 := A1) (c1 := c1) (by rw [HCL.out]; exact HR.out.alloc _) (by rw [HCL.out]; exact ho3) hK3 hs0
            rw [HCL.out, take_snoc _ j _ (backM_get M j (by rw [HLL.out]; omega))] at hp
            have HP := Lib.hid hp
            have HB3 := Lib.hid (HB.out.trans (((HBI.out.alloc hsi (.cells #[.slice A1 k c1] 23)).mono hs0).trans (hK3.below (B := w.heap.size) (by simp; omega) (fun g hg => (HO.out.out.lt g hg).1))))
            clear hp ho3 hK3
            go_wp2_with (fail)
            go_roundw
            case rel => exact ⟨j + 1, _, _, _, by omega, by go_num, rfl, HP.out, HB3.out⟩
            case measure => simp [intOf]; omega
    · obtain rfl : j = n := by omega
      have e : (backM M).take j = backM M := List.take_of_length_le (by rw [backM_len, HLL.out]; omega)
      rw [e] at hown
      have HOM := Lib.hid hown
      have HE := Lib.hid (show (backM M).length = j by rw [backM_len, HLL.out])
      clear e hown
      go_wp2_with (fail)
      go_ret
      exact ⟨_, _, _, by rw [HE.out]; rfl, by rw [HE.out]; exact HOM.out, hbel⟩
end Go.Proofs.Ytegkmolffemkpaa
