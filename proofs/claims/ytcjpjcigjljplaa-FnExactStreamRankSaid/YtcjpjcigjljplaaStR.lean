/-
  The contracts of squareTable, StreamRank of the program and of the model.
-/
import Derived.Deep.RegionHeld3
import Derived.Test.YtcjpjcigjljplaaTab
import Derived.Test.YtcjpjcigjljplaaSRt
import Derived.Test.YtcjpjcigjljplaaFormM
import Derived.Test.YtcjpjcigjljplaaBxs
namespace Go.Proofs.Ytcjpjcigjljplaa
open Go.RowKit
theorem trm_ser {p : Int} {T F : List Int} (h : recB p T F = true) {m : Nat} (hm : m ≤ 24) : serB p (trm p T F m) = true :=
  serB_mk (recB_true h).1 (by rw [trm_len]; exact hm) (trm_num h m)
def sqrL (p : Int) (T F : List Int) (R : Nat) : List (List Int) := tabL (trm p T F (2 * R - 1)) R R
theorem sqr_terms {p : Int} {T F : List Int} (h : recB p T F = true) {R : Nat} (h1 : 1 ≤ R) (h8 : R ≤ 8) : termsO p T F (2 * (R : Int) - 1) = trm p T F (2 * R - 1) := by
  unfold termsO
  rw [if_pos ⟨h, by omega, by omega⟩]
  congr 1
  omega
theorem sqr_tab {p : Int} {T F : List Int} (h : recB p T F = true) {R : Nat} (h1 : 1 ≤ R) (h8 : R ≤ 8) : tabR p (trm p T F (2 * R - 1)) (R : Int) (R : Int) = sqrL p T F R := by
  unfold tabR
  rw [if_pos]
  · rfl
  · unfold tabOk inB
    rw [trm_ser h (by omega), trm_len]
    simp only [Bool.true_and, Bool.and_eq_true, decide_eq_true_eq]
    omega
theorem sqr_len (p : Int) (T F : List Int) (R : Nat) : (sqrL p T F R).length = R := tabL_len _ _ _
def streamRankR (p : Int) (T F : List Int) : Int := if recB p T F = true then rankR p (sqrL p T F 8) else -1
theorem streamRank_bd (p : Int) (T F : List Int) : -1 ≤ streamRankR p T F ∧ streamRankR p T F ≤ 13 := by
  unfold streamRankR
  split
  · rename_i h
    unfold rankR
    split
    · rename_i hm
      have h8 := (matB_true hm).2.2.2.1
      have hv := VM_of_mat hm
      have := (elim_inv (recB_true h).1 hv (((sqrL p T F 8).headD []).length)).2.2.2
      omega
    · omega
  · omega
set_option maxRecDepth 100000 in
set_option maxHeartbeats 4000000 in
theorem squareTable_any (v : Value) (p : Int) (T F : List Int) (R : Nat) (w : World) (h : RV w v p T F) (hv : recB p T F = true) (h1 : 1 ≤ R) (h8 : R ≤ 8) :
    Calls Try.prog 56 #[v, .int .i64 (R : Int)] w (MadeM R (sqrL p T F R) w) := by
  obtain ⟨A, n, c, b, o, A', n', c', b', o', rfl, g1, g2⟩ := h
  have hbx := Bx.new w (.int .i64 p) (.slice A n c) (.slice A' n' c') 42
  have hB0 : Below w.heap.size w (w.alloc (.cells #[.int .i64 p, .slice A n c, .slice A' n' c'] 42)) := (Below.refl _ w).alloc (Nat.le_refl _) _
  have HV0 := Lib.hid (show RV _ (.agg #[.int .i64 p, .slice A n c, .slice A' n' c']) p T F from ⟨_, _, _, _, _, _, _, _, _, _, rfl, g1.below hB0, g2.below hB0⟩)
  have HBX := Lib.hid hbx
  have HB0 := Lib.hid hB0
  have E1 := Lib.hid (sqr_terms hv h1 h8)
  have E2 := Lib.hid (sqr_tab hv h1 h8)
  have hw0 : IntKind.i64.wrap (2 * (R : Int)) = 2 * (R : Int) := IntWalk.i64_in _ ⟨by omega, by omega⟩
  have hw1 : IntKind.i64.wrap (2 * (R : Int) - 1) = 2 * (R : Int) - 1 := IntWalk.i64_in _ ⟨by omega, by omega⟩
  clear g1 g2 hB0 hbx hv
  go_enter Try.func56, Try.ntmps56
  go_wp2_with (fail)
  have HVd := Lib.hid (HV0.out.below (below_new_drew _))
  have HBd := Lib.hid HB0.out.drew
  have ZS := HBX.out
  have Zd := HBX.out.drew
  unfold Bx at ZS Zd
  go_region_held3 (fun w' => w'.cell? ⟨w.heap.size, 0, none⟩ = some (.int .i64 p) ∧ w'.cell? ⟨w.heap.size, 1, none⟩ = some (.slice A n c) ∧ w'.cell? ⟨w.heap.size, 2, none⟩ = some (.slice A' n' c')) (first | assumption | exact ZB | exact ZA | exact Zd | exact ZS | go_keep)
    (first
      | (go_at_call 79; refine (implRecTerms _ p T F (2 * (R : Int) - 1) _ HVd.out).mono ?_; rw [E1.out, trm_len]; rintro e w3 ⟨A5, c5, rfl, hO, hB⟩; obtain ⟨b5, hI⟩ := hO.ia; have hc5 := OI.capLe hO; have HI5 := Lib.hid hI; have HB3 := Lib.hid (below_more HBd.out hB); have HBX3 := Lib.hid (HBX.out.drew.below hB); have ZA := HBX3.out; unfold Bx at ZA; clear hO hB hI)
      | (go_at_call 11; refine (implTableOf p A5 _ c5 b5 0 (trm p T F (2 * R - 1)) (R : Int) (R : Int) _ HI5.out hc5).mono ?_; rw [E2.out, sqr_len]; rintro e w4 ⟨A6, c6, v6, rfl, hO, hB⟩; have HO6 := Lib.hid hO; have hs3 := HB3.out.size; have HB4 := Lib.hid (below_more HB3.out hB); have HBX4 := Lib.hid (HBX3.out.below hB); have ZB := HBX4.out; unfold Bx at ZB; clear hO hB))
  all_goals
    go_wp2_with (fail)
    go_ret
    exact ⟨A6, c6, v6, rfl, HO6.out.mono hs3, HB4.out⟩
set_option maxRecDepth 100000 in
set_option maxHeartbeats 4000000 in
theorem implStreamRank (v : Value) (p : Int) (T F : List Int) (w : World) (h : RV w v p T F) :
    Calls Try.prog 26 #[v] w (IntBelow (streamRankR p T F) w) := by
  obtain ⟨A, n, c, b, o, A', n', c', b', o', rfl, g1, g2⟩ := h
  have hbx := Bx.new w (.int .i64 p) (.slice A n c) (.slice A' n' c') 42
  have hB0 : Below w.heap.size w (w.alloc (.cells #[.int .i64 p, .slice A n c, .slice A' n' c'] 42)) := (Below.refl _ w).alloc (Nat.le_refl _) _
  have HV0 := Lib.hid (show RV _ (.agg #[.int .i64 p, .slice A n c, .slice A' n' c']) p T F from ⟨_, _, _, _, _, _, _, _, _, _, rfl, g1.below hB0, g2.below hB0⟩)
  have HBX := Lib.hid hbx
  have HB0 := Lib.hid hB0
  clear g1 g2 hB0 hbx
  rcases hv : recB p T F
  · have HV := Lib.hid hv
    have HE := Lib.hid (show streamRankR p T F = -1 by unfold streamRankR; rw [if_neg (by simp [hv])])
    clear hv
    go_enter Try.func26, Try.ntmps26
    go_wp2_with (go_at_call 54; refine (implRecValid _ p T F _ HV0.out).mono ?_; rintro e w1 ⟨rfl, hB⟩; rw [HV.out]; have HB := Lib.hid hB; clear hB)
    go_ret
    exact ⟨by rw [HE.out]; rfl, below_more HB0.out HB.out⟩
  have HV := Lib.hid hv
  have HE := Lib.hid (show streamRankR p T F = rankR p (sqrL p T F 8) by unfold streamRankR; rw [if_pos hv])
  clear hv
  go_enter Try.func26, Try.ntmps26
  go_wp2_with (go_at_call 54; refine (implRecValid _ p T F _ HV0.out).mono ?_; rintro e w1 ⟨rfl, hB⟩; rw [HV.out]; have HB1 := Lib.hid (below_more HB0.out hB); have HBX1 := Lib.hid (HBX.out.below hB); have HV1 := Lib.hid (HV0.out.below hB); have y0 := HBX1.out.1; have y1 := HBX1.out.2.1; have y2 := HBX1.out.2.2; clear hB)
  have HVd := Lib.hid (HV1.out.below (below_new_drew _))
  have HBd := Lib.hid HB1.out.drew
  have ZS := HBX1.out
  have Zd := HBX1.out.drew
  unfold Bx at ZS Zd
  go_region_held3 (fun w' => w'.cell? ⟨w.heap.size, 0, none⟩ = some (.int .i64 p) ∧ w'.cell? ⟨w.heap.size, 1, none⟩ = some (.slice A n c) ∧ w'.cell? ⟨w.heap.size, 2, none⟩ = some (.slice A' n' c')) (first | assumption | exact ZB | exact ZA | exact Zd | exact ZS | go_keep)
    (first
      | (go_at_call 56; refine (squareTable_any _ p T F 8 _ HVd.out HV.out (by decide) (by decide)).mono ?_; rintro e w3 ⟨A5, c5, v5, rfl, hO, hB⟩; obtain ⟨b5, hR⟩ := hO.ra; have HR5 := Lib.hid hR; have HB3 := Lib.hid (below_more HBd.out hB); have HBX3 := Lib.hid (HBX1.out.drew.below hB); have ZA := HBX3.out; unfold Bx at ZA; clear hO hB hR)
      | (go_at_call 55; refine (implMatRank p A5 _ c5 b5 0 (sqrL p T F 8) _ HR5.out).mono ?_; rintro e w4 ⟨rfl, hB⟩; rw [← HE.out]; have HB4 := Lib.hid (below_more HB3.out hB); have HBX4 := Lib.hid (HBX3.out.below hB); have ZB := HBX4.out; unfold Bx at ZB; clear hB))
  all_goals
    go_wp2_with (fail)
    go_ret
    exact ⟨rfl, HB4.out⟩
set_option maxRecDepth 100000 in
set_option maxHeartbeats 4000000 in
theorem specStreamRank (v : Value) (p : Int) (T F : List Int) (w : World) (h : RV w v p T F) :
    Calls Try.prog 24 #[v] w (IntBelow (streamRankR p T F) w) := by
  obtain ⟨A, n, c, b, o, A', n', c', b', o', rfl, g1, g2⟩ := h
  have hbx := Bx.new w (.int .i64 p) (.slice A n c) (.slice A' n' c') 42
  have hB0 : Below w.heap.size w (w.alloc (.cells #[.int .i64 p, .slice A n c, .slice A' n' c'] 42)) := (Below.refl _ w).alloc (Nat.le_refl _) _
  have HV0 := Lib.hid (show RV _ (.agg #[.int .i64 p, .slice A n c, .slice A' n' c']) p T F from ⟨_, _, _, _, _, _, _, _, _, _, rfl, g1.below hB0, g2.below hB0⟩)
  have HBX := Lib.hid hbx
  have HB0 := Lib.hid hB0
  clear g1 g2 hB0 hbx
  rcases hv : recB p T F
  · have HV := Lib.hid hv
    have HE := Lib.hid (show streamRankR p T F = -1 by unfold streamRankR; rw [if_neg (by simp [hv])])
    clear hv
    go_enter Try.func24, Try.ntmps24
    go_wp2_with (go_at_call 51; refine (specRecValid _ p T F _ HV0.out).mono ?_; rintro e w1 ⟨rfl, hB⟩; rw [HV.out]; have HB := Lib.hid hB; clear hB)
    go_ret
    exact ⟨by rw [HE.out]; rfl, below_more HB0.out HB.out⟩
  have HV := Lib.hid hv
  have HE := Lib.hid (show streamRankR p T F = rankR p (sqrL p T F 8) by unfold streamRankR; rw [if_pos hv])
  have E2 := Lib.hid (sqr_tab hv (show 1 ≤ 8 by decide) (Nat.le_refl 8))
  clear hv
  go_enter Try.func24, Try.ntmps24
  go_wp2_with (go_at_call 51; refine (specRecValid _ p T F _ HV0.out).mono ?_; rintro e w1 ⟨rfl, hB⟩; rw [HV.out]; have HB1 := Lib.hid (below_more HB0.out hB); have HBX1 := Lib.hid (HBX.out.below hB); have HV1 := Lib.hid (HV0.out.below hB); have y0 := HBX1.out.1; have y1 := HBX1.out.2.1; have y2 := HBX1.out.2.2; clear hB)
  have HVd := Lib.hid (HV1.out.below (below_new_drew _))
  have HBd := Lib.hid HB1.out.drew
  have ZS := HBX1.out
  have Zd := HBX1.out.drew
  unfold Bx at ZS Zd
  go_region_held3 (fun w' => w'.cell? ⟨w.heap.size, 0, none⟩ = some (.int .i64 p) ∧ w'.cell? ⟨w.heap.size, 1, none⟩ = some (.slice A n c) ∧ w'.cell? ⟨w.heap.size, 2, none⟩ = some (.slice A' n' c')) (first | assumption | exact ZC | exact ZB | exact ZA | exact Zd | exact ZS | go_keep)
    (first
      | (go_at_call 53; refine (specL3 _ p T F 15 _ HVd.out HV.out (by decide)).mono ?_; rintro e w3 ⟨A5, c5, rfl, hO, hB⟩; obtain ⟨b5, hI⟩ := hO.ia; have hc5 := OI.capLe hO; have HI5 := Lib.hid hI; have HB3 := Lib.hid (below_more HBd.out hB); have HBX3 := Lib.hid (HBX1.out.drew.below hB); have ZA := HBX3.out; unfold Bx at ZA; clear hO hB hI)
      | (go_at_call 13; refine (specTableOf p A5 _ c5 b5 0 (trm p T F 15) ((8 : Nat) : Int) ((8 : Nat) : Int) _ HI5.out hc5).mono ?_; rw [show tabR p (trm p T F 15) ((8 : Nat) : Int) ((8 : Nat) : Int) = sqrL p T F 8 from E2.out, sqr_len]; rintro e w4 ⟨A6, c6, v6, rfl, hO, hB⟩; obtain ⟨b6, hR⟩ := hO.ra; have HR6 := Lib.hid hR; have HB4 := Lib.hid (below_more HB3.out hB); have HBX4 := Lib.hid (HBX3.out.below hB); have ZB := HBX4.out; unfold Bx at ZB; clear hO hB hR)
      | (go_at_call 52; refine (specMatRank p A6 _ c6 b6 0 (sqrL p T F 8) _ HR6.out).mono ?_; rintro e w5 ⟨rfl, hB⟩; rw [← HE.out]; have HB5 := Lib.hid (below_more HB4.out hB); have HBX5 := Lib.hid (HBX4.out.below hB); have ZC := HBX5.out; unfold Bx at ZC; clear hB))
  all_goals
    go_wp2_with (fail)
    go_ret
    exact ⟨rfl, HB5.out⟩
end Go.Proofs.Ytcjpjcigjljplaa
