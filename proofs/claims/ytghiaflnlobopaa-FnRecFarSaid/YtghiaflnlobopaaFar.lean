/-
  RecFar: what it answers, and the program's contract.
-/
import Derived.Deep.RegionHeld3
import Derived.Test.YtghiaflnlobopaaSRPol
import Derived.Test.YtghiaflnlobopaaEq
import Derived.Test.YtghiaflnlobopaaSPow
import Derived.Test.YtghiaflnlobopaaBxs
namespace Go.Proofs.Ytghiaflnlobopaa
open Go.RowKit
def farO (p : Int) (T F : List Int) (x : Int) : Int := if recB p T F = true ∧ 0 ≤ x ∧ x ≤ 1000000 then stm p T F x.toNat else -1
theorem farO_bd (p : Int) (T F : List Int) (x : Int) : -1 ≤ farO p T F x ∧ farO p T F x ≤ 13 := by
  unfold farO
  split
  · rename_i h
    have h1 := prime_ge (recB_true h.1).1
    have h2 := numB_bd (stm_num h.1 x.toNat)
    omega
  · omega
def far2 (R F : List Int) (k : Nat) : Int := sigN k (fun j => co R j * co F j)
theorem far2_bd {p : Int} {R F : List Int} {n : Nat} (hR : ∀ x ∈ R, numB p x = true) (hF : ∀ x ∈ F, numB p x = true) (hp : p ≤ 13) (hn : n ≤ R.length) (hl : R.length ≤ F.length) (h8 : F.length ≤ 8) (k : Nat) (hk : k ≤ n) : 0 ≤ far2 R F k ∧ far2 R F k ≤ 1352 := by
  have h : 0 ≤ far2 R F k ∧ far2 R F k ≤ 169 * (k : Int) := sigN_bd fun j hj => by
    have h1 := numB_bd (co_num hR (show j < R.length by omega))
    have h2 := numB_bd (co_num hF (show j < F.length by omega))
    exact mul_bd h1.1 (by omega) h2.1 (by omega)
  omega
theorem far_is {p : Int} {T F : List Int} (h : recB p T F = true) {N : Nat} (hN : N ≤ 1000000) : ((powO p (recP p T) (N : Int)).getD []).length ≤ F.length ∧ (∀ x ∈ (powO p (recP p T) (N : Int)).getD [], numB p x = true) ∧ far2 ((powO p (recP p T) (N : Int)).getD []) F ((powO p (recP p T) (N : Int)).getD []).length % p = stm p T F N := by
  obtain ⟨hp, h6, hl, hT, hF⟩ := recB_true h
  have hg := recP_pol hp h6
  have hgl := recP_len p T
  by_cases h0 : T.length = 0
  · have e : powO p (recP p T) (N : Int) = none := by unfold powO; rw [if_neg (fun h => by have := h.2.1; omega)]
    rw [e]
    obtain rfl : T = [] := List.eq_nil_of_length_eq_zero h0
    obtain rfl : F = [] := List.eq_nil_of_length_eq_zero (by simpa using hl)
    exact ⟨by simp, by simp, by rw [stm_nil]; simp [far2, sigN]⟩
  · have e : powO p (recP p T) (N : Int) = some (powR p (recP p T) N) := by unfold powO; rw [if_pos ⟨hg, by omega, by omega, by omega, by omega⟩]; rfl
    rw [e]
    obtain ⟨h1, h2, h3⟩ := powR_law hg (by omega) (by omega) N
    show (powR p (recP p T) N).length ≤ F.length ∧ (∀ x ∈ powR p (recP p T) N, numB p x = true) ∧ _
    exact ⟨by omega, (serB_true (polB_ser h1)).2.2, far_law (R := powR p (recP p T) N) h (by omega) h3⟩
theorem sumP_any (p : Int) (A : Option Addr) (n c b o : Nat) (xs : List Int) (A' : Option Addr) (n' c' b' o' : Nat) (ys : List Int) (w : World) (h : IA w A n b o xs) (h' : IA w A' n' b' o' ys) (hn : n ≤ n') (hn8 : n' ≤ 8)
    (hp : primeB p = true) (hx : ∀ x ∈ xs, numB p x = true) (hy : ∀ y ∈ ys, numB p y = true) :
    Calls Try.prog 16 #[.int .i64 p, .slice A n c, .slice A' n' c'] w fun e w' => e = .returned (.int .i64 (far2 xs ys n % p)) ∧ ∃ m, w' = w.drewN m := by
  have hpb := prime_ge hp
  have H := Lib.hid h
  have H' := Lib.hid h'
  have HX := Lib.hid hx
  have HY := Lib.hid hy
  have HBD := Lib.hid (far2_bd hx hy hpb.2 (n := n) (by rw [h.len]; omega) (by rw [h.len, h'.len]; omega) (by rw [h'.len]; omega))
  obtain ⟨f, hf⟩ : ∃ f, far2 xs ys = f := ⟨_, rfl⟩
  have HFF := Lib.hid hf
  rw [hf]
  have hf0 : f 0 = 0 := by rw [← hf]; rfl
  clear h h' hx hy hp hf
  go_enter Try.func16, Try.ntmps16
  go_wp2_with (fail)
  go_loopw [7, 11] (fun s i wr => ∃ k : Nat, k ≤ n ∧ i = .int .i64 k ∧ s = .int .i64 (f k) ∧ Hid (∃ m, wr = w.drewN m)) (fun _ i _ => n - (intOf i).toNat)
  case atStart => exact ⟨0, by omega, rfl, by rw [hf0], 0, rfl⟩
  case round =>
    obtain ⟨k, hk, rfl, rfl, hw⟩ := hrel
    have hb := HBD.out k (by omega)
    rw [HFF.out] at hb
    by_cases hlt : k < n
    · obtain rfl := H.out.adr (by omega)
      obtain rfl := H'.out.adr (by omega)
      obtain ⟨x, hx, hc⟩ := (H.out.drewN hw.out).cell k hlt
      obtain ⟨y, hy, hc'⟩ := (H'.out.drewN hw.out).cell k (by omega)
      have hxb := numB_bd (HX.out x (List.mem_of_getElem? hx))
      have hyb := numB_bd (HY.out y (List.mem_of_getElem? hy))
      have hm := mul_bd hxb.1 (by omega) hyb.1 (by omega)
      have hkn' : k < n' := by omega
      have hkn2 : (k : Int) < (n' : Int) := by omega
      have HD := Lib.hid (show f (k + 1) = f k + x * y by
        rw [← HFF.out]
        show far2 xs ys k + co xs k * co ys k = _
        rw [show co xs k = x from getD_at hx, show co ys k = y from getD_at hy])
      clear hx hy
      go_wp2_with (fail)
      go_quiet (fail)
      go_wp2_with (fail)
      go_roundw
      case rel => exact ⟨k + 1, by omega, by go_num, by rw [HD.out], drewN_more hw.out _⟩
      case measure => simp [intOf]; omega
    · obtain rfl : k = n := by omega
      go_wp2_with (fail)
      go_ret
      exact ⟨rfl, hw.out⟩
set_option maxRecDepth 100000 in
set_option maxHeartbeats 2000000 in
theorem implRecFar (v : Value) (p : Int) (T F : List Int) (x : Int) (w : World) (h : RV w v p T F) :
    Calls Try.prog 5 #[v, .int .i64 x] w fun e w' => e = .returned (.int .i64 (farO p T F x)) ∧ Below w.heap.size w w' := by
  obtain ⟨A, n, c, b, o, A', n', c', b', o', rfl, g1, g2⟩ := h
  have H := Lib.hid (show RV w (.agg #[.int .i64 p, .slice A n c, .slice A' n' c']) p T F from ⟨_, _, _, _, _, _, _, _, _, _, rfl, g1, g2⟩)
  have HF2 := Lib.hid g2
  have HL := Lib.hid g1.len
  have HL' := Lib.hid g2.len
  have hbx := Bx.new w (.int .i64 p) (.slice A n c) (.slice A' n' c') 25
  have hB0 := below_new w (.cells #[.int .i64 p, .slice A n c, .slice A' n' c'] 25)
  have HV0 := Lib.hid (H.out.below hB0)
  have HBX := Lib.hid hbx
  have HB0 := Lib.hid hB0
  clear g1 g2 hbx hB0
  rcases hv : recB p T F
  · have HV := Lib.hid hv
    have HE := Lib.hid (show farO p T F x = -1 by unfold farO; rw [if_neg (by simp [hv])])
    clear hv
    go_enter Try.func5, Try.ntmps5
    go_wp2_with (go_at_call 13; refine (implRecValid _ p T F _ HV0.out).mono ?_; rintro e w1 ⟨rfl, hB⟩; rw [HV.out]; have HB := Lib.hid hB; clear hB)
    go_ret
    exact ⟨ret_int HE.out.symm, below_more HB0.out HB.out⟩
  have HV := Lib.hid hv
  by_cases hx : 0 ≤ x ∧ x ≤ 1000000
  case neg =>
    have HE := Lib.hid (show farO p T F x = -1 by unfold farO; rw [if_neg (by simp only [not_and]; intro _; omega)])
    have hc : (x < 0) ∨ (¬ x < 0 ∧ 1000000 < x) := by omega
    clear hx hv
    go_enter Try.func5, Try.ntmps5
    rcases hc with hc | ⟨hc, hc2⟩
    · go_wp2_with (go_at_call 13; refine (implRecValid _ p T F _ HV0.out).mono ?_; rintro e w1 ⟨rfl, hB⟩; rw [HV.out]; have HB := Lib.hid hB; clear hB)
      go_ret
      exact ⟨ret_int HE.out.symm, below_more HB0.out HB.out⟩
    · go_wp2_with (go_at_call 13; refine (implRecValid _ p T F _ HV0.out).mono ?_; rintro e w1 ⟨rfl, hB⟩; rw [HV.out]; have HB := Lib.hid hB; clear hB)
      go_ret
      exact ⟨ret_int HE.out.symm, below_more HB0.out HB.out⟩
  obtain ⟨N, rfl⟩ : ∃ m : Nat, x = (m : Int) := ⟨x.toNat, by omega⟩
  have hN : N ≤ 1000000 := by omega
  obtain ⟨hp, h6, hl, hT, hF⟩ := recB_true hv
  have HE := Lib.hid (show farO p T F (N : Int) = stm p T F N by unfold farO; rw [if_pos ⟨hv, hx⟩]; rfl)
  have HPO := Lib.hid (show polyO p T F = recP p T by unfold polyO; rw [if_pos hv])
  obtain ⟨ob, hob⟩ : ∃ ob, powO p (recP p T) (N : Int) = ob := ⟨_, rfl⟩
  have hfar := far_is hv hN
  rw [hob] at hfar
  obtain ⟨R, hR⟩ : ∃ R, ob.getD [] = R := ⟨_, rfl⟩
  rw [hR] at hfar
  have HFAR := Lib.hid hfar
  have HOB := Lib.hid hob
  have HR := Lib.hid hR
  have HP := Lib.hid hp
  have HF := Lib.hid hF
  have hn8 : n' ≤ 8 := by rw [← HL'.out]; omega
  have hne0 : ¬ (N : Int) < 0 := by omega
  have hne1 : ¬ 1000000 < (N : Int) := by omega
  clear hx hv hp hT hF hl hob hR hfar
  go_enter Try.func5, Try.ntmps5
  go_wp2_with (go_at_call 13; refine (implRecValid _ p T F _ HV0.out).mono ?_; rintro e w1 ⟨rfl, hB⟩; rw [HV.out]; have HB1 := Lib.hid (below_more HB0.out hB); have HBX1 := Lib.hid (HBX.out.below hB); clear hB)
  have HVd := Lib.hid (H.out.below HB1.out.drew)
  have ZS := HBX1.out
  have Zd := HBX1.out.drew
  have Q1 : True := trivial
  unfold Bx at ZS Zd
  go_region_held3 (fun w' => w'.cell? ⟨w.heap.size, 0, none⟩ = some (.int .i64 p) ∧ w'.cell? ⟨w.heap.size, 1, none⟩ = some (.slice A n c) ∧ w'.cell? ⟨w.heap.size, 2, none⟩ = some (.slice A' n' c')) (first | assumption | exact ZB | exact ZA | exact Zd | exact ZS | go_keep)
    (first
      | (clear Q1; go_at_call 15; refine (implRecPoly _ p T F _ HVd.out).mono ?_; rw [HPO.out]; rintro e wA ⟨A5, c5, rfl, hO, hB⟩; obtain ⟨b5, hI⟩ := hO.ia; have HI := Lib.hid hI; have HB2 := Lib.hid (below_more HB1.out.drew hB); have HBX2 := Lib.hid (HBX1.out.drew.below hB); have ZA := HBX2.out; unfold Bx at ZA; have Q2 : True := trivial; clear hO hI hB)
      | (clear Q2; go_at_call 14; refine (implPowerRest p _ _ _ _ _ (recP p T) (N : Int) _ HI.out).mono ?_; rw [HOB.out]; rintro e wB ⟨A6, c6, he, hO, hB⟩; rw [HR.out] at he hO; subst he; obtain ⟨b6, hI⟩ := hO.ia; have HI6 := Lib.hid hI; have HB3 := Lib.hid (below_more HB2.out hB); have HBX3 := Lib.hid (HBX2.out.below hB); have ZB := HBX3.out; unfold Bx at ZB; clear hO hI hB))
  all_goals
    clear ZS Zd
    obtain ⟨y0, y1, y2⟩ := HBX3.out
    go_wp2_with (fail)
    refine (sumP_any p A6 R.length c6 b6 0 R A' n' c' b' o' F _ HI6.out (HF2.out.below HB3.out) (by rw [← HL'.out]; exact HFAR.out.1) hn8 HP.out HFAR.out.2.1 HF.out).mono ?_
    rintro e wC ⟨rfl, hw⟩
    have HB4 := Lib.hid (below_drawn HB3.out hw)
    clear hw
    go_wp2_with (fail)
    go_ret
    exact ⟨ret_int (by rw [HFAR.out.2.2, HE.out]), HB4.out⟩
end Go.Proofs.Ytghiaflnlobopaa
