/-
  The contract of the model's MatTimes.
-/
import Derived.Test.YtpelokdgjdljfabTimesI
namespace Go.Proofs.Ytpelokdgjdljfab
open Go.RowKit
theorem quietRW {w w' : World} (h : ∃ m, w' = w.drewN m) : Keep (fun _ => False) w w' := by obtain ⟨m, rfl⟩ := h; exact drewN_keep w m
theorem OI.drawn {w w' : World} {B n c : Nat} {A : Option Addr} {xs : List Int} (h : OI w B A n c xs) (hw : ∃ m, w' = w.drewN m) : OI w' B A n c xs := owns_keep h (quietRW hw) (fun _ _ h => h)
theorem OM.drawn {w w' : World} {B n c : Nat} {A : Option Addr} {M : List (List Int)} {vs : List Value} (h : OM w B A n c M vs) (hw : ∃ m, w' = w.drewN m) : OM w' B A n c M vs := h.keep (quietRW hw) (fun _ _ _ h => h)
set_option maxHeartbeats 400000 in
theorem specTimes (p : Int) (A : Option Addr) (n c b o : Nat) (X : List (List Int)) (A' : Option Addr) (n' c' b' o' : Nat) (Y : List (List Int)) (w : World) (h : RA w A n b o X) (h' : RA w A' n' b' o' Y)
    (hv : matB p X = true) (hv' : matB p Y = true) (hq : (X.headD []).length = Y.length) :
    Calls Try.prog 52 #[.int .i64 p, .slice A n c, .slice A' n' c'] w (GivesM (timesM p X Y) w) := by
  have hbig := h.big
  have hbig' := h'.big
  have H := Lib.hid h
  have H' := Lib.hid h'
  obtain ⟨hn1, hn8, hl1, hl8, hrows⟩ := matB_true hv
  obtain ⟨hn1', hn8', hl1', hl8', hrows'⟩ := matB_true hv'
  have hL := H.out.len
  have hL' := H'.out.len
  obtain ⟨l0, hl0⟩ : ∃ l0, (Y.headD []).length = l0 := ⟨_, rfl⟩
  rw [hL] at hn1 hn8
  rw [hL'] at hn1' hn8' hq
  rw [hl0] at hl1' hl8' hrows'
  obtain rfl := H.out.adr (by omega)
  obtain rfl := H'.out.adr (by omega)
  have HP := Lib.hid (prime_of_mat hv)
  have hpb := prime_ge HP.out
  have HRW := Lib.hid (show ∀ row ∈ X, row.length = n' ∧ ∀ x ∈ row, numB p x = true from fun row hr => by have := hrows row hr; rw [hq] at this; exact this)
  have HRW' := Lib.hid hrows'
  have HV' := Lib.hid hv'
  have HL0 := Lib.hid hl0
  have HLL := Lib.hid hL
  have HLL' := Lib.hid hL'
  clear h h' hv hv' hq hrows hrows' hL hL' hl0 hl1 hl8
  go_enter Try.func52, Try.ntmps52
  go_wp2_with (fail)
  go_loopw [7, 8] (fun v i wr => ∃ (k : Nat) (Ao : Option Addr) (co : Nat) (vs : List Value), k ≤ n ∧ i = .int .i64 k ∧ v = .slice Ao k co ∧ OM wr w.heap.size Ao k co ((timesM p X Y).take k) vs ∧ Below w.heap.size w wr) (fun _ i _ => n - (intOf i).toNat)
  case atStart => exact ⟨0, _, _, [], by omega, rfl, rfl, OM.empty w, (Below.refl _ _).alloc (Nat.le_refl _) _⟩
  case round =>
    obtain ⟨k, Ao, co, vs, hk, rfl, rfl, hown, hbel⟩ := hrel
    obtain ⟨wo, rfl⟩ : ∃ wo : World, wo = wr := ⟨_, rfl⟩
    by_cases hlt : k < n
    · obtain ⟨row, A2, c2, b2, o2, hr, hcw, hI⟩ := H.out.row k hlt
      obtain ⟨hrl, hrv⟩ := HRW.out row (List.mem_of_getElem? hr)
      obtain ⟨y0, Ay0, cy0, by0, oy0, hy0, hcy0, hIy0⟩ := H'.out.row 0 (by omega)
      have hyl := HL0.out
      rw [headD_of hy0] at hyl
      rw [hyl, Nat.add_zero] at hcy0
      rw [hrl] at hcw hI
      have HO := Lib.hid hown
      have HB := Lib.hid hbel
      have hs0 := hbel.size
      have HI := Lib.hid hI
      have HRR := Lib.hid hr
      have HRV := Lib.hid hrv
      have HCW := Lib.hid hcw
      have HCY := Lib.hid hcy0
      clear hown hbel hI hr hrl hrv hcw hcy0 hy0 hIy0 hyl
      go_wp2_with (fail)
      go_loopw [9, 10] (fun v i wi => ∃ (j : Nat) (A1 : Option Addr) (c1 : Nat), j ≤ l0 ∧ i = .int .i64 j ∧ v = .slice A1 j c1 ∧ OI wi wo.heap.size A1 j c1 ((timesRow p Y row).take j) ∧ Below wo.heap.size wo wi) (fun _ i _ => l0 - (intOf i).toNat)
      case atStart => exact ⟨0, _, _, by omega, rfl, rfl, OI.empty wo, (Below.refl _ _).alloc (Nat.le_refl _) _⟩
      case round =>
        obtain ⟨j, A1, c1, hj, rfl, rfl, hrow, hbi⟩ := hrel
        obtain ⟨wj, rfl⟩ : ∃ wj : World, wj = wr := ⟨_, rfl⟩
        have hsi := hbi.size
        have hbw : Below w.heap.size w wj := HB.out.trans (hbi.mono hs0)
        have hcy := (keep_of_below hbw).cell HCY.out (fun h => h)
        by_cases hlj : j < l0
        · have HR := Lib.hid hrow
          have HBI := Lib.hid hbi
          have HBW := Lib.hid hbw
          clear hrow hbi hbw
          go_wp2_with (fail)
          go_loopw [11, 12] (fun s i w3 => ∃ q : Nat, q ≤ n' ∧ i = .int .i64 q ∧ s = .int .i64 (dot (row.take q) ((colM Y j).take q)) ∧ Hid (∃ m, w3 = wj.drewN m)) (fun _ i _ => n' - (intOf i).toNat)
          case atStart => exact ⟨0, by omega, rfl, by simp [dot], 0, rfl⟩
          case round =>
            obtain ⟨q, hq, rfl, rfl, hw3⟩ := hrel
            have hcv := colM_valid HV'.out j (by rw [HL0.out]; omega)
            have hb := dot_take_bd hpb.2 row (colM Y j) q (by omega) HRV.out hcv
            have hbw3 := below_drawn HBW.out hw3.out
            by_cases hlq : q < n'
            · obtain ⟨yr, A3, c3, b3, o3, hr3, hc3, hI3⟩ := (H'.out.below hbw3).row q hlq
              obtain ⟨hyl3, hyv3⟩ := HRW'.out yr (List.mem_of_getElem? hr3)
              obtain ⟨y, hy, hyc⟩ := hI3.cell j (by omega)
              obtain rfl := hI3.adr (by omega)
              rw [hyl3] at hc3
              have hcr := (keep_of_below hbw3).cell HCW.out (fun h => h)
              obtain ⟨x, hx, hxc⟩ := (HI.out.below hbw3).cell q hlq
              obtain rfl := HI.out.adr (by omega)
              have hxb := numB_bd (HRV.out x (List.mem_of_getElem? hx))
              have hyb := numB_bd (hyv3 y (List.mem_of_getElem? hy))
              have hm := mul_bd hxb.1 (by omega) hyb.1 (by omega)
              have HD := Lib.hid (dot_take row (colM Y j) q x y hx (colM_get hr3 hy))
              clear hx hy hr3 hI3 hyl3 hyv3 hcv hbw3
              go_wp2_with (fail)
              go_quiet (fail)
              go_wp2_with (fail)
              go_roundw
              case rel => exact ⟨q + 1, by omega, by go_num, by rw [HD.out], drewN_more hw3.out _⟩
              case measure => simp [intOf]; omega
            · obtain rfl : q = n' := by omega
              have HD := Lib.hid (show dot (row.take q) ((colM Y j).take q) = dot row (colM Y j) from dot_same _ _ q (HRW.out row (List.mem_of_getElem? HRR.out)).1 (by rw [colM_len, HLL'.out]))
              have HS := Lib.hid (take_snoc _ j _ (timesRow_get p Y row j (by rw [HL0.out]; omega)))
              have HR3 := Lib.hid (HR.out.drawn hw3.out)
              have HB3 := Lib.hid (below_drawn HBI.out hw3.out)
              have hs3 := HB3.out.size
              clear hbw3 hcv
              go_wp2_with (at_builtin; refine wpList_app_int rfl (.tmp 52) (.tmp 56) rfl wo.heap.size A1 j c1 _ rfl (HR3.out.alloc _) (dot (row.take q) ((colM Y j).take q) % p) _ _ rfl ?_ (by omega) ?_ ?_)
              · simp
              · simp; omega
              · intro A4 c4 w4 hI4 hK4
                rw [HD.out, HS.out] at hI4
                have HI4 := Lib.hid hI4
                have HB4 := Lib.hid ((HB3.out.alloc hs3 (.cells #[.int .i64 (dot (row.take q) ((colM Y j).take q) % p)] 3)).trans (hK4.below (B := wo.heap.size) (by simp; omega) (fun g hg => ((HR3.out.alloc (.cells #[.int .i64 (dot (row.take q) ((colM Y j).take q) % p)] 3)).lt g hg).1)))
                clear hI4 hK4
                go_wp2_with (fail)
                go_roundw
                case rel => exact ⟨j + 1, _, _, by omega, by go_num, rfl, HI4.out, HB4.out⟩
                case measure => simp [intOf]; omega
        · obtain rfl : j = l0 := by omega
          have e : (timesRow p Y row).take j = timesRow p Y row := List.take_of_length_le (by rw [timesRow_len, HL0.out]; omega)
          rw [e] at hrow
          have HR := Lib.hid hrow
          have HBI := Lib.hid hbi
          have HCL := Lib.hid (show (timesRow p Y row).length = j by rw [timesRow_len, HL0.out])
          clear e hrow hbi hbw
          go_wp2_with (at_builtin; refine wpList_app_row rfl (.tmp 58) (.tmp 60) rfl w.heap.size Ao k co vs rfl (World.ownsRow.alloc (owns_below HO.out.out HBI.out) _) A1 j c1 _ _ rfl ?_ (by omega) ?_ ?_)
          · simp
          · simp; omega
          · intro A3 c3 w3 ho3 hK3
            have hp := HO.out.push (HBI.out.alloc hsi (.cells #[.slice A1 j c1] 30)) (row := timesRow p Y row) (A1 := A1) (c1 := c1) (by rw [HCL.out]; exact HR.out.alloc _) (by rw [HCL.out]; exact ho3) hK3 hs0
            rw [HCL.out, take_snoc _ k _ (timesM_get HRR.out)] at hp
            have HP2 := Lib.hid hp
            have HB3 := Lib.hid (HB.out.trans (((HBI.out.alloc hsi (.cells #[.slice A1 j c1] 30)).mono hs0).trans (hK3.below (B := w.heap.size) (by simp; omega) (fun g hg => (HO.out.out.lt g hg).1))))
            clear hp ho3 hK3
            go_wp2_with (fail)
            go_roundw
            case rel => exact ⟨k + 1, _, _, _, by omega, by go_num, rfl, HP2.out, HB3.out⟩
            case measure => simp [intOf]; omega
    · obtain rfl : k = n := by omega
      have e : (timesM p X Y).take k = timesM p X Y := List.take_of_length_le (by rw [timesM_len, HLL.out]; omega)
      rw [e] at hown
      obtain ⟨bo, hRA⟩ := hown.ra
      have HRA := Lib.hid hRA
      have HE := Lib.hid (show (timesM p X Y).length = k by rw [timesM_len, HLL.out])
      clear e hown hRA
      go_wp2_with (fail)
      go_ret
      exact ⟨_, _, _, _, by rw [HE.out]; rfl, by rw [HE.out]; exact HRA.out, hbel⟩
end Go.Proofs.Ytpelokdgjdljfab
