/-
  The contract of the model's MatTurn.
-/
import Derived.Test.YtpelokdgjdljfabApp
namespace Go.Proofs.Ytpelokdgjdljfab
open Go.RowKit
def colM (M : List (List Int)) (j : Nat) : List Int := M.map fun row => row.getD j 0
def turnM (M : List (List Int)) : List (List Int) := (List.range (M.headD []).length).map (colM M)
def turnR (p : Int) (M : List (List Int)) : List (List Int) := if matB p M = true then turnM M else []
theorem colM_len (M : List (List Int)) (j : Nat) : (colM M j).length = M.length := by simp [colM]
theorem colM_get {M : List (List Int)} {k j : Nat} {row : List Int} {x : Int} (hr : M[k]? = some row) (hx : row[j]? = some x) : (colM M j)[k]? = some x := by
  simp [colM, hr, hx]
theorem turnM_len (M : List (List Int)) : (turnM M).length = (M.headD []).length := by simp [turnM]
theorem turnM_get (M : List (List Int)) (j : Nat) (h : j < (M.headD []).length) : (turnM M)[j]? = some (colM M j) := by
  unfold turnM; rw [List.getElem?_map, List.getElem?_range h]; rfl
theorem take_snoc {α : Type} (l : List α) (k : Nat) (x : α) (h : l[k]? = some x) : l.take k ++ [x] = l.take (k + 1) := by rw [List.take_add_one, h]; rfl
/-- a call's result: a slice of slices that reads so -/
def GivesM (R : List (List Int)) (w : World) (e : Ending) (w' : World) : Prop :=
  ∃ (A : Option Addr) (c b o : Nat), e = .returned (.slice A R.length c) ∧ RA w' A R.length b o R ∧ Below w.heap.size w w'
theorem RA.nil (w : World) (A : Option Addr) : RA w A 0 0 0 [] := ⟨rfl, by omega, by omega, by omega⟩
theorem OM.empty (w : World) : OM (w.alloc (.cells #[] 30)) w.heap.size (some ⟨w.heap.size, 0, none⟩) 0 0 [] [] :=
  ⟨World.ownsRow_lit (size := 1) w #[] 0 (Nat.le_refl _) (Nat.zero_le _) (by simp), rfl, fun r row h => by simp at h, fun r s u u' _ h => by simp at h⟩
theorem OI.empty (w : World) : OI (w.alloc (.cells #[] 3)) w.heap.size (some ⟨w.heap.size, 0, none⟩) 0 0 [] := World.ownsRow_lit (size := 1) w #[] 0 (Nat.le_refl _) (Nat.zero_le _) (by simp)
theorem OI.alloc {w : World} {B n c : Nat} {A : Option Addr} {xs : List Int} (h : OI w B A n c xs) (o : Obj) : OI (w.alloc o) B A n c xs := World.ownsRow.alloc h o
theorem OM.alloc {w : World} {B n c : Nat} {A : Option Addr} {M : List (List Int)} {vs : List Value} (h : OM w B A n c M vs) (o : Obj) : OM (w.alloc o) B A n c M vs := h.below ((Below.refl _ _).alloc (Nat.le_refl _) o)
theorem specMatTurn (p : Int) (A : Option Addr) (n c b o : Nat) (M : List (List Int)) (w : World) (h : RA w A n b o M) :
    Calls Try.prog 29 #[.int .i64 p, .slice A n c] w (GivesM (turnR p M) w) := by
  have hbig := h.big
  have H := Lib.hid h
  clear h
  rcases hv : matB p M
  · have HV := Lib.hid hv
    clear hv
    go_enter Try.func29, Try.ntmps29
    go_wp2_with (fail)
    refine (specMatValid p A n c b o M _ (H.out.below ((Below.refl _ _).alloc (Nat.le_refl _) _))).mono ?_
    rintro e w1 ⟨rfl, hm⟩
    rw [HV.out]
    go_wp2_with (fail)
    go_ret
    refine ⟨_, _, 0, 0, by rw [show turnR p M = [] from by unfold turnR; rw [HV.out]; rfl]; rfl, ?_, ?_⟩
    · rw [show turnR p M = [] from by unfold turnR; rw [HV.out]; rfl]; exact RA.nil _ _
    · exact below_drawn ((Below.refl _ _).alloc (Nat.le_refl _) _) hm
  · go_enter Try.func29, Try.ntmps29
    go_wp2_with (fail)
    refine (specMatValid p A n c b o M _ (H.out.below ((Below.refl _ _).alloc (Nat.le_refl _) _))).mono ?_
    rintro e w1 ⟨rfl, hm⟩
    rw [hv]
    go_wp2_with (fail)
    obtain ⟨hn1, hn8, hl1, hl8, hrows⟩ := matB_true hv
    have hL := H.out.len
    obtain ⟨l0, hl0⟩ : ∃ l0, (M.headD []).length = l0 := ⟨_, rfl⟩
    rw [hl0] at hl1 hl8 hrows
    rw [hL] at hn1 hn8
    have hB1 := below_drawn ((Below.refl w.heap.size w).alloc (Nat.le_refl _) (.cells #[] 30)) hm
    have hO1 : OM w1 w.heap.size (some ⟨w.heap.size, 0, none⟩) 0 0 [] [] := (OM.empty w).below (below_drawn (Below.refl _ _) hm)
    have HL0 := Lib.hid hl0
    have HLL := Lib.hid hL
    have HRW := Lib.hid hrows
    have HT := Lib.hid (show turnR p M = turnM M from by unfold turnR; rw [hv]; rfl)
    clear hl0 hL hrows hm hv
    go_loopw [5, 6] (fun v i wr => ∃ (j : Nat) (A' : Option Addr) (c' : Nat) (vs : List Value), j ≤ l0 ∧ i = .int .i64 j ∧ v = .slice A' j c' ∧ OM wr w.heap.size A' j c' ((turnM M).take j) vs ∧ Below w.heap.size w wr) (fun _ i _ => l0 - (intOf i).toNat)
    case atStart => exact ⟨0, _, _, [], by omega, rfl, rfl, hO1, hB1⟩
    case round =>
      obtain ⟨j, A', c', vs, hj, rfl, rfl, hown, hbel⟩ := hrel
      obtain ⟨wo, rfl⟩ : ∃ wo : World, wo = wr := ⟨_, rfl⟩
      obtain ⟨row0, A0, c0, b0, o0, hr0, hc0, hI0⟩ := (H.out.below hbel).row 0 (by omega)
      have hrl0 := HL0.out
      rw [headD_of hr0] at hrl0
      obtain rfl := H.out.adr (by omega)
      simp only [Nat.add_zero, hrl0] at hc0
      by_cases hlt : j < l0
      · have HO := Lib.hid hown
        have HB := Lib.hid hbel
        have hs0 := hbel.size
        clear hr0 hI0 hown hbel hrl0
        go_wp2_with (fail)
        go_loopw [7, 8] (fun v i wi => ∃ (k : Nat) (A1 : Option Addr) (c1 : Nat), k ≤ n ∧ i = .int .i64 k ∧ v = .slice A1 k c1 ∧ OI wi wo.heap.size A1 k c1 ((colM M j).take k) ∧ Below wo.heap.size wo wi) (fun _ i _ => n - (intOf i).toNat)
        case atStart => exact ⟨0, _, _, by omega, rfl, rfl, OI.empty wo, (Below.refl _ _).alloc (Nat.le_refl _) _⟩
        case round =>
          obtain ⟨k, A1, c1, hk, rfl, rfl, hrow, hbi⟩ := hrel
          have hsi := hbi.size
          by_cases hlk : k < n
          · obtain ⟨row, A2, c2, b2, o2, hr, hc, hI⟩ := (H.out.below (HB.out.trans (hbi.mono hs0))).row k hlk
            have hrl := (HRW.out row (List.mem_of_getElem? hr)).1
            obtain ⟨x, hx, hxc⟩ := hI.cell j (by omega)
            obtain rfl := hI.adr (by omega)
            rw [hrl] at hc
            have HS := Lib.hid (take_snoc _ k x (colM_get hr hx))
            have HR := Lib.hid hrow
            have HBI := Lib.hid hbi
            clear hr hI hx hrow hbi hrl
            go_wp2_with (at_builtin; refine wpList_app_int rfl (.tmp 30) (.tmp 38) rfl wo.heap.size A1 k c1 _ rfl (HR.out.alloc _) x _ _ rfl ?_ (by omega) ?_ ?_)
            · simp
            · simp; omega
            · intro A3 c3 w3 hI3 hK3
              rw [HS.out] at hI3
              have HI3 := Lib.hid hI3
              have HB3 := Lib.hid ((HBI.out.alloc hsi (.cells #[.int .i64 x] 3)).trans (hK3.below (B := wo.heap.size) (by simp; omega) (fun g hg => ((HR.out.alloc (.cells #[.int .i64 x] 3)).lt g hg).1)))
              clear hI3 hK3
              go_wp2_with (fail)
              go_roundw
              case rel => exact ⟨k + 1, _, _, by omega, by go_num, rfl, HI3.out, HB3.out⟩
              case measure => simp [intOf]; omega
          · obtain rfl : k = n := by omega
            have e : (colM M j).take k = colM M j := List.take_of_length_le (by rw [colM_len, HLL.out]; omega)
            rw [e] at hrow
            have HR := Lib.hid hrow
            have HBI := Lib.hid hbi
            have HCL := Lib.hid (show (colM M j).length = k by rw [colM_len, HLL.out])
            clear e hrow hbi
            go_wp2_with (at_builtin; refine wpList_app_row rfl (.tmp 40) (.tmp 42) rfl w.heap.size A' j c' vs rfl (World.ownsRow.alloc (owns_below HO.out.out HBI.out) _) A1 k c1 _ _ rfl ?_ (by omega) ?_ ?_)
            · simp
            · simp; omega
            · intro A3 c3 w3 ho3 hK3
              have hp := HO.out.push (HBI.out.alloc hsi (.cells #[.slice A1 k c1] 30)) (row := colM M j) (A1 := A1) (c1 := c1) (by rw [HCL.out]; exact HR.out.alloc _) (by rw [HCL.out]; exact ho3) hK3 hs0
              rw [HCL.out, take_snoc _ j _ (turnM_get M j (by rw [HL0.out]; omega))] at hp
              have HP := Lib.hid hp
              have HB3 := Lib.hid (HB.out.trans (((HBI.out.alloc hsi (.cells #[.slice A1 k c1] 30)).mono hs0).trans (hK3.below (B := w.heap.size) (by simp; omega) (fun g hg => (HO.out.out.lt g hg).1))))
              clear hp ho3 hK3
              go_wp2_with (fail)
              go_roundw
              case rel => exact ⟨j + 1, _, _, _, by omega, by go_num, rfl, HP.out, HB3.out⟩
              case measure => simp [intOf]; omega
      · obtain rfl : j = l0 := by omega
        have e : (turnM M).take j = turnM M := List.take_of_length_le (by rw [turnM_len, HL0.out]; omega)
        rw [e] at hown
        obtain ⟨bo, hRA⟩ := hown.ra
        have HRA := Lib.hid hRA
        have HE := Lib.hid (show (turnM M).length = j by rw [turnM_len, HL0.out])
        clear e hown hRA hr0 hI0 hrl0
        go_wp2_with (fail)
        go_ret
        refine ⟨_, _, _, _, by rw [HT.out, HE.out]; rfl, by rw [HT.out, HE.out]; exact HRA.out, hbel⟩
end Go.Proofs.Ytpelokdgjdljfab
