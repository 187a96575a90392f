/-
  Plain mathematics: the fraction of the series without its first number.
  The contract of FracBack of the program.
  The contracts of l4Fit, FracBack of the model.
  The contract of FracShift of the model.
  The contract of FracShift of the program.
-/
import Derived.Test.YtjbghoooldahlaaDoorFrM
import Derived.Test.YtjbghoooldahlaaDoorFrZp
import Derived.Test.YtjbghoooldahlaaDoorFrL
import Derived.Deep.RegionHeld3
import Derived.Test.YtjbghoooldahlaaDoorNeg
namespace Go.Proofs.YtjbghoooldahlaaDoor
def shiftT (p : Int) (U L : List Int) : Int := co (frT p U L 1) 0
def shiftM (p : Int) (U L : List Int) : List Int := addL p U L (p - shiftT p U L)
def fracShiftR (p : Int) (U L : List Int) : Option (Int × List Int × List Int) := if fracB p U L = true then leastR p ((shiftM p U L).drop 1) L else none
theorem fracShiftR_len (p : Int) (U L : List Int) : ((fracShiftR p U L).getD (0, [], [])).2.1.length ≤ 1048576 ∧ ((fracShiftR p U L).getD (0, [], [])).2.2.length ≤ 1048576 := ifR_len _ _ _ _
theorem frT_one (p : Int) (U L : List Int) : frT p U L 1 = [shiftT p U L] := by
  unfold shiftT
  have h := frT_len p U L 1
  match hm : frT p U L 1, h with
  | [x], _ => rfl
theorem shiftT_num {p : Int} (hp : primeB p = true) (U L : List Int) : numB p (shiftT p U L) = true := by
  unfold shiftT frT
  rw [co_convR p _ _ (by decide)]
  exact numB_emod hp _
theorem shift_law {p : Int} {U L : List Int} (h : fracB p U L = true) :
    polB p (shiftM p U L) = true ∧ co (shiftM p U L) 0 = 0 ∧ (shiftM p U L).length ≤ 12 ∧ addL p U (negL p (trimL (tmsL p L [shiftT p U L]))) 1 = shiftM p U L ∧ polB p ((shiftM p U L).drop 1) = true ∧ quoL p (shiftM p U L) [0, 1] = (shiftM p U L).drop 1 ∧ polB p [0, 1] = true := by
  obtain ⟨hu, hl, hu12, hl12, hl0, hl1⟩ := fracB_true h
  have hp := (serB_true (polB_ser hu)).1
  have hpb := prime_ge hp
  have ht := shiftT_num hp U L
  have hM : polB p (shiftM p U L) = true := addL_pol _ (polB_ser hu) (polB_ser hl)
  have hlen : (shiftM p U L).length ≤ 12 := by have := addL_len p U L (p - shiftT p U L); unfold shiftM; omega
  have h0 : co (shiftM p U L) 0 = 0 := by
    unfold shiftM
    rw [co_addL]
    obtain ⟨_, hb1, hb2⟩ := frT_back hp (serB_true (polB_ser hl)).2.2 hl1 (show 1 ≤ 24 by decide) (Nat.le_refl 1)
    obtain ⟨_, _, _, hbk⟩ := back_law (begL_ser hp (serB_true (polB_ser hl)).2.2 (show 1 ≤ 24 by decide)) (by rw [begL_len]; exact Nat.le_refl 1) (by rw [co_begL L (by decide)]; exact hl1)
    have hk := hbk 0 (by rw [begL_len]; decide)
    rw [cv_at0, co_begL L (by decide)] at hk
    have ht0 : shiftT p U L = co U 0 * co (backL p (begL L 1)) 0 % p := by unfold shiftT frT; rw [co_convR p _ _ (by decide), cv_at0]
    have h2 := near_mod p (co U 0 * co (backL p (begL L 1)) 0)
    rw [← ht0] at h2
    have hu0 : unitF 0 = 1 := rfl
    rw [hu0] at hk
    generalize co (backL p (begL L 1)) 0 = bb at hk h2
    generalize shiftT p U L = t at h2 ⊢
    have h3 := Int.dvd_add (dvd_mulR h2 (co L 0)) (dvd_mulL hk (co U 0))
    have h4 := Int.dvd_sub (Int.dvd_mul_right p (co L 0)) h3
    rw [show p * co L 0 - ((t - co U 0 * bb) * co L 0 + co U 0 * (co L 0 * bb - 1)) = co U 0 + (p - t) * co L 0 by grind] at h4
    exact Int.emod_eq_zero_of_dvd h4
  have hadd : addL p U (negL p (trimL (tmsL p L [shiftT p U L]))) 1 = shiftM p U L := by
    rw [scale_eq hp]
    refine polW_ext hp (addL_W hp _ _ _) (polB_W hM) (fun k => ?_)
    unfold shiftM
    rw [co_addL, co_addL, Int.one_mul]
    have h1 := near_mod p (co U k + co (negL p (scaleL p (shiftT p U L) L)) k)
    have h2 := near_mod p (co U k + (p - shiftT p U L) * co L k)
    have h3 := co_neg (p := p) (scaleL p (shiftT p U L) L) k
    rw [co_scale] at h3
    have h4 := near_mod p (shiftT p U L * co L k)
    generalize (co U k + co (negL p (scaleL p (shiftT p U L) L)) k) % p = a at h1 ⊢
    generalize (co U k + (p - shiftT p U L) * co L k) % p = b at h2 ⊢
    generalize co (negL p (scaleL p (shiftT p U L) L)) k = d at h1 h3
    generalize shiftT p U L * co L k % p = e at h3 h4
    have h5 := Int.dvd_sub (Int.dvd_sub (Int.dvd_sub (Int.dvd_add h1 h3) h4) h2) (Int.dvd_mul_right p (co L k))
    rwa [show a - (co U k + d) + (d - -1 * e) - (e - shiftT p U L * co L k) - (b - (co U k + (p - shiftT p U L) * co L k)) - p * co L k = a - b by grind] at h5
  have hd : ∀ k, co ((shiftM p U L).drop 1) k = co (shiftM p U L) (k + 1) := fun k => by
    unfold co
    rw [List.getD_eq_getElem?_getD, List.getD_eq_getElem?_getD, List.getElem?_drop, Nat.add_comm 1 k]
  have hdp : polB p ((shiftM p U L).drop 1) = true := by
    obtain ⟨_, hl24, hv⟩ := serB_true (polB_ser hM)
    refine polB_of (serB_mk hp (by rw [List.length_drop]; omega) (fun x hx => hv x (List.mem_of_mem_drop hx))) ?_
    rcases Nat.lt_or_ge 1 (shiftM p U L).length with hlt | hge
    · right
      rw [List.length_drop, hd, show (shiftM p U L).length - 1 - 1 + 1 = (shiftM p U L).length - 1 by omega]
      exact (polB_last hM).resolve_left (by omega)
    · left; rw [List.length_drop]; omega
  have hx : polB p [0, 1] = true := polB_of (serB_one hp).2 (.inr (by simp [co]))
  have hmono : co [0, 1] = mono 1 := by
    funext k
    match k with
    | 0 => rfl
    | 1 => rfl
    | k + 2 => simp [co, mono]
  obtain ⟨q1, r1, _, r2, hq⟩ := div_law (polB_ser hM) hx (by simp)
  have hcv : ∀ i, cv (mono 1) (co (quoL p (shiftM p U L) [0, 1])) i = if 1 ≤ i then co (quoL p (shiftM p U L) [0, 1]) (i - 1) else 0 := fun i => by
    rw [cv_comm]
    have := cv_at (co (quoL p (shiftM p U L) [0, 1])) 1 i 1
    rw [show (fun j => if j = 1 then (1 : Int) else 0) = mono 1 from rfl] at this
    rw [this]; simp
  have hr : co (remL p (shiftM p U L) [0, 1]) 0 = 0 := by
    have := hq 0
    rw [hmono, hcv, if_neg (by decide), h0, Int.zero_add] at this
    have hb := co_bd (polB_ser r1) 0
    have h5 : p ∣ co (remL p (shiftM p U L) [0, 1]) 0 := by have := Int.dvd_neg.2 this; rwa [show -(0 - co (remL p (shiftM p U L) [0, 1]) 0) = co (remL p (shiftM p U L) [0, 1]) 0 by omega] at this
    exact near_zero h5 hb.1 hb.2
  refine ⟨hM, h0, hlen, hadd, hdp, ?_, hx⟩
  refine pol_ext' q1 hdp fun k => co_near (polB_ser q1) (polB_ser hdp) ?_
  have := hq (k + 1)
  rw [hmono, hcv, if_pos (by omega), Nat.add_sub_cancel, co_far (f := remL p (shiftM p U L) [0, 1]) (by simp at r2; omega), Int.add_zero] at this
  rw [hd]
  exact near_symm this
end Go.Proofs.YtjbghoooldahlaaDoor
namespace Go.Proofs.YtjbghoooldahlaaDoor
open Go.RowKit
end Go.Proofs.YtjbghoooldahlaaDoor
namespace Go.Proofs.YtjbghoooldahlaaDoor
open Go.RowKit
theorem leastR_fit {p : Int} {up low : List Int} (hu : polB p up = true) (hl : polB p low = true) (h0 : low.length ≠ 0) (hz : co low 0 ≠ 0) : leastR p up low = if fracB p (leastL p up low).1 (leastL p up low).2 = true then some (p, (leastL p up low).1, (leastL p up low).2) else none := by
  obtain ⟨l1, l2, l3, l4, _, _⟩ := least_law hu hl h0 hz
  by_cases h : (leastL p up low).1.length ≤ 12 ∧ (leastL p up low).2.length ≤ 12
  · rw [if_pos, leastR_yes h0 hz h.1 h.2]
    unfold fracB
    simp only [Bool.and_eq_true, decide_eq_true_eq]
    exact ⟨⟨⟨⟨⟨l1, l2⟩, h.1⟩, h.2⟩, by omega⟩, by omega⟩
  · rw [if_neg]
    · unfold leastR leastO
      rw [if_neg (fun h' => h ⟨h'.2.2.1, h'.2.2.2⟩)]
      rfl
    · intro hf
      obtain ⟨_, _, a, b, _, _⟩ := fracB_true hf
      exact h ⟨a, b⟩
set_option maxRecDepth 100000 in
set_option maxHeartbeats 2000000 in
theorem specFit (v : Value) (p : Int) (X Y : List Int) (w : World) (B : Nat) (h : RO w B v p X Y) :
    Calls Tryd.prog 15 #[v] w fun e w' => ∃ u, e = .returned (.tuple #[u, .bool (fracB p X Y)]) ∧ (fracB p X Y = true → RO w' B u p X Y) ∧ (fracB p X Y = false → u = .agg #[.int .i64 0, .slice none 0 0, .slice none 0 0]) ∧ Below w.heap.size w w' := by
  have HV0 := Lib.hid h.rv
  have HRO := Lib.hid h
  obtain ⟨A, c, A', c', rfl, h1, h2, h3⟩ := h
  have hbx := (Bx.new w (.int .i64 p) (.slice A X.length c) (.slice A' Y.length c') 26).below (below_new _ (.cells #[.int .i64 0, .slice none 0 0, .slice none 0 0] 26))
  have hbw := BxW.new (w.alloc (.cells #[.int .i64 p, .slice A X.length c, .slice A' Y.length c'] 26)) (.int .i64 0) (.slice none 0 0) (.slice none 0 0) 26
  rw [World.size_alloc] at hbw
  have hB0 := ((Below.refl w.heap.size w).alloc (Nat.le_refl _) (.cells #[.int .i64 p, .slice A X.length c, .slice A' Y.length c'] 26)).alloc (by simp) (.cells #[.int .i64 0, .slice none 0 0, .slice none 0 0] 26)
  have HV := Lib.hid (HV0.out.below hB0)
  have HRO := Lib.hid (HRO.out.below hB0)
  have HLT := Lib.hid (show ∀ g, recBlk (.agg #[.int .i64 p, .slice A X.length c, .slice A' Y.length c']) g → B ≤ g ∧ g < w.heap.size from fun g hg => (RO.lt ⟨A, c, A', c', rfl, h1, h2, h3⟩ : ∀ g, recBlk _ g → B ≤ g ∧ g < w.heap.size) g hg)
  have HBX := Lib.hid hbx
  have HBW := Lib.hid hbw
  have HB0 := Lib.hid hB0
  clear h1 h2 h3 hbx hbw hB0 HV0
  rcases hv : fracB p X Y
  · have HV1 := Lib.hid hv
    clear hv
    go_enter Tryd.func15, Tryd.ntmps15
    go_wp2_with (go_at_call 12; refine (specFracValid _ p X Y _ HV.out).mono ?_; rintro e w1 ⟨rfl, hB⟩; rw [HV1.out]; have HB1 := Lib.hid (below_more HB0.out hB); have hbw := HBW.out.below hB; have x0 := hbw.c.1; have x1 := hbw.c.2.1; have x2 := hbw.c.2.2; have fz := hbw.fz; clear hB hbw)
    refine bodyPost_ret (v := .tuple #[.agg #[.int .i64 0, .slice none 0 0, .slice none 0 0], .bool false]) (by simp [results, Tryd.f15, go_sem, x0, x1, x2]) rfl ?_
    exact ⟨_, rfl, fun h => (by cases h), fun _ => rfl, HB1.out.trans (set3_far w1 (w.heap.size + 1) _ _ _ (by omega) HB1.out.size)⟩
  · have HV1 := Lib.hid hv
    clear hv
    go_enter Tryd.func15, Tryd.ntmps15
    go_wp2_with (go_at_call 12; refine (specFracValid _ p X Y _ HV.out).mono ?_; rintro e w1 ⟨rfl, hB⟩; rw [HV1.out]; have HB1 := Lib.hid (below_more HB0.out hB); have HRO1 := Lib.hid (HRO.out.below hB); have hbx := HBX.out.below hB; have y0 := hbx.1; have y1 := hbx.2.1; have y2 := hbx.2.2; have hbw := HBW.out.below hB; have x0 := hbw.c.1; have x1 := hbw.c.2.1; have x2 := hbw.c.2.2; have fz := hbw.fz; clear hB hbw hbx)
    refine bodyPost_ret (v := .tuple #[.agg #[.int .i64 p, .slice A X.length c, .slice A' Y.length c'], .bool true]) (by simp [results, Tryd.f15, go_sem, x0, x1, x2]) rfl ?_
    exact ⟨_, rfl, fun _ => HRO1.out.keep (set3_keep w1 (w.heap.size + 1) _ _ _) (fun k hk e => by have := (HLT.out k hk).2; omega), fun h => (by cases h), HB1.out.trans (set3_far w1 (w.heap.size + 1) _ _ _ (by omega) HB1.out.size)⟩
end Go.Proofs.YtjbghoooldahlaaDoor
namespace Go.Proofs.YtjbghoooldahlaaDoor
open Go.RowKit
set_option maxRecDepth 100000 in
set_option maxHeartbeats 16000000 in
theorem specFracShift (v : Value) (p : Int) (U L : List Int) (w : World) (h : RV w v p U L) :
    Calls Tryd.prog 5 #[v] w (MadeRB (fracShiftR p U L) w) := by
  obtain ⟨A, n, c, b, o, A', n', c', b', o', rfl, g1, g2⟩ := h
  have hbx := (Bx.new w (.int .i64 p) (.slice A n c) (.slice A' n' c') 26).below (below_new _ (.cells #[.int .i64 0, .slice none 0 0, .slice none 0 0] 26))
  have hbw := BxW.new (w.alloc (.cells #[.int .i64 p, .slice A n c, .slice A' n' c'] 26)) (.int .i64 0) (.slice none 0 0) (.slice none 0 0) 26
  rw [World.size_alloc] at hbw
  have hB0 := ((Below.refl w.heap.size w).alloc (Nat.le_refl _) (.cells #[.int .i64 p, .slice A n c, .slice A' n' c'] 26)).alloc (by simp) (.cells #[.int .i64 0, .slice none 0 0, .slice none 0 0] 26)
  have HV := Lib.hid (show RV _ (.agg #[.int .i64 p, .slice A n c, .slice A' n' c']) p U L from ⟨_, _, _, _, _, _, _, _, _, _, rfl, g1.below hB0, g2.below hB0⟩)
  have H := Lib.hid (g1.below hB0)
  have H' := Lib.hid (g2.below hB0)
  have HBX := Lib.hid hbx
  have HBW := Lib.hid hbw
  have HB0 := Lib.hid hB0
  clear g1 g2 hbx hbw hB0
  rcases hv : fracB p U L
  · have HV1 := Lib.hid hv
    have HE := Lib.hid (show fracShiftR p U L = none by unfold fracShiftR; rw [if_neg (by simp [hv])])
    clear hv
    go_enter Tryd.func5, Tryd.ntmps5
    go_wp2_with (go_at_call 12; refine (specFracValid _ p U L _ HV.out).mono ?_; rintro e w1 ⟨rfl, hB⟩; rw [HV1.out]; have HB1 := Lib.hid (below_more HB0.out hB); have hbw := HBW.out.below hB; have x0 := hbw.c.1; have x1 := hbw.c.2.1; have x2 := hbw.c.2.2; have fz := hbw.fz; clear hB hbw)
    refine bodyPost_ret (v := .tuple #[.agg #[.int .i64 0, .slice none 0 0, .slice none 0 0], .bool false]) (by simp [results, Tryd.f5, go_sem, x0, x1, x2]) rfl ?_
    rw [HE.out]
    exact madeb_no HB1.out (by omega)
  have HV1 := Lib.hid hv
  have HVV := Lib.hid hv
  obtain ⟨hu, hl, hu12, hl12, hl0, hl1⟩ := fracB_true hv
  have hpr := (serB_true (polB_ser hu)).1
  have hpb := prime_ge hpr
  obtain ⟨s1, s2, s3, s4, s5, s6, s7⟩ := shift_law hv
  have htn := numB_bd (shiftT_num hpr U L)
  obtain ⟨t, htt⟩ : ∃ t, shiftT p U L = t := ⟨_, rfl⟩
  have HONE := Lib.hid (show frT p U L 1 = [t] by rw [frT_one, htt])
  obtain ⟨M, hM⟩ : ∃ M, shiftM p U L = M := ⟨_, rfl⟩
  have HM := Lib.hid (show addL p U L (p - t) = M by rw [← hM, ← htt]; rfl)
  rw [htt] at htn
  rw [hM] at s1 s3 s5
  obtain ⟨MD, hMD⟩ : ∃ D, M.drop 1 = D := ⟨_, rfl⟩
  have HMD := Lib.hid hMD
  rw [hMD] at s5
  have HE := Lib.hid (show fracShiftR p U L = if fracB p (leastL p MD L).1 (leastL p MD L).2 = true then some (p, (leastL p MD L).1, (leastL p MD L).2) else none by
    unfold fracShiftR; rw [if_pos hv, hM, hMD]; exact leastR_fit s5 hl hl0 hl1)
  have HPR := Lib.hid hpr
  have HU := Lib.hid hu
  have HL := Lib.hid hl
  have HUV := Lib.hid (serB_true (polB_ser hu)).2.2
  have HLV := Lib.hid (serB_true (polB_ser hl)).2.2
  have HL0 := Lib.hid (And.intro hl0 hl1)
  have HD := Lib.hid s5
  have HPM := Lib.hid s1
  have HZ0 := Lib.hid (show co M 0 = 0 by rw [← hM]; exact s2)
  have HTR := Lib.hid (show trimL MD = MD from trim_pol (polB_last s5))
  have hn1 : n ≤ 12 := by rw [← H.out.len]; exact hu12
  have hn2 : n' ≤ 12 := by rw [← H'.out.len]; exact hl12
  have hpt : 0 ≤ p - t ∧ p - t ≤ 13 := by omega
  have hw1 : IntKind.i64.wrap (p - t) = p - t := IntWalk.i64_in _ ⟨by omega, by omega⟩
  clear hv hu hl hu12 hl12 hl0 hl1 s1 s2 s4 s5 s6 s7 htt hM hMD hpr
  go_enter Tryd.func5, Tryd.ntmps5
  go_wp2_with (go_at_call 12; refine (specFracValid _ p U L _ HV.out).mono ?_; rintro e w1 ⟨rfl, hB⟩; rw [HV1.out]; have HB1 := Lib.hid (below_more HB0.out hB); have H1 := Lib.hid (H.out.below hB); have H1' := Lib.hid (H'.out.below hB); have HVa := Lib.hid (HV.out.below hB); have HW1 := Lib.hid (HBW.out.below hB); have HBX1 := Lib.hid (HBX.out.below hB); have y0 := HBX1.out.1; have y1 := HBX1.out.2.1; have y2 := HBX1.out.2.2; clear hB)
  refine (specL4 _ p U L 1 _ HVa.out HVV.out (by decide)).mono ?_
  rw [HONE.out]
  rintro e w0 ⟨A0, c0, rfl, hO, hB⟩
  obtain ⟨b0, hI⟩ := hO.ia
  obtain rfl := hI.adr (by simp)
  obtain ⟨x9, hx9, hc⟩ := hI.cell 0 (by simp)
  rw [Nat.add_zero] at hc
  obtain rfl : t = x9 := by simpa using hx9
  have HC := Lib.hid hc
  have HB0a := Lib.hid (below_more HB1.out hB)
  have H1a := Lib.hid (H1.out.below hB)
  have H1b := Lib.hid (H1'.out.below hB)
  have HW1a := Lib.hid (HW1.out.below hB)
  have HBXa := Lib.hid (HBX1.out.below hB)
  have hbig0 := hI.big
  clear hO hI hB hx9 y0 y1 y2
  have y0 := HBXa.out.1
  have y1 := HBXa.out.2.1
  have y2 := HBXa.out.2.2
  go_wp2_with (fail)
  refine (specAdd p (p - t) A n c b o U A' n' c' b' o' L _ H1a.out H1b.out HPR.out HUV.out HLV.out hpt (by omega) (by omega)).mono ?_
  rw [HM.out]
  rintro e wa ⟨Aa, ca, rfl, hO, hB⟩
  obtain ⟨ba, hI, hA⟩ := OI.iaA hO
  have hca := OI.capLe hO
  have HIa := Lib.hid hI
  have HBa := Lib.hid (below_more HB0a.out hB)
  have HLa := Lib.hid (H1b.out.below hB)
  have HWa := Lib.hid (HW1a.out.below hB)
  have HBXb := Lib.hid (HBXa.out.below hB)
  clear hO hI hB y0 y1 y2 hc
  obtain ⟨y0, y1, y2⟩ := HBXb.out
  by_cases hm : M.length = 0
  · obtain rfl : M = [] := List.eq_nil_of_length_eq_zero hm
    have hmi : ¬ (0 : Int) < (([] : List Int).length : Int) := by simp
    have hMD2 : MD = [] := by rw [← HMD.out]; rfl
    have HIt := Lib.hid (show IA wa Aa 0 ba 0 MD from by rw [hMD2]; exact HIa.out)
    clear hMD2
    have hcz : 0 ≤ ca := Nat.zero_le _
    clear hm
    obtain ⟨X, hX⟩ : ∃ X, (leastL p MD L).1 = X := ⟨_, rfl⟩
    obtain ⟨Y, hY⟩ : ∃ Y, (leastL p MD L).2 = Y := ⟨_, rfl⟩
    have HE2 := HE.out
    rw [hX, hY] at HE2
    have HXY := Lib.hid (And.intro hX hY)
    clear hX hY
    rcases hf : fracB p X Y
    · have HR := Lib.hid (show fracShiftR p U L = none by rw [HE2, if_neg (by simp [hf])])
      have HF := Lib.hid hf
      clear HE2 hf
      go_wp2_with (fail)
      have HItd := Lib.hid (HIt.out.below (below_new_drew _))
      have HLad := Lib.hid (HLa.out.below (below_new_drew _))
      have hf0 : ∀ (W : World) (o o' : Nat) (v : Value), (W.setCell ⟨w.heap.size + 1, o, none⟩ v).cell? ⟨w.heap.size, o', none⟩ = W.cell? ⟨w.heap.size, o', none⟩ := fun W o o' v => World.cell?_setCell_far _ _ _ _ (by show w.heap.size + 1 ≠ w.heap.size; omega)
      have ZS := HBXb.out
      have Zd := HBXb.out.drew
      unfold Bx at ZS Zd
      go_region_held3 (fun w' => w'.cell? ⟨w.heap.size, 0, none⟩ = some (.int .i64 p) ∧ w'.cell? ⟨w.heap.size, 1, none⟩ = some (.slice A n c) ∧ w'.cell? ⟨w.heap.size, 2, none⟩ = some (.slice A' n' c')) (first | assumption | exact ZC | exact ZB | exact ZA | exact Zd | exact ZS | (simp only [hf0]; exact ZC) | go_keep)
        (first
          | (go_at_call 17; (with_reducible refine (specTrim Aa 0 ca ba 0 MD _ HItd.out (by omega) hcz hA).mono ?_); rw [HTR.out]; rintro e wt ⟨At, ct, rfl, hO, hB⟩; obtain ⟨bt, hI⟩ := hO.ia; have HIT := Lib.hid hI; have HBt := Lib.hid (below_more HBa.out.drew hB); have HWt := Lib.hid (HWa.out.drew.below hB); have HLt := Lib.hid (HLad.out.below hB); have HBXt := Lib.hid (HBXb.out.drew.below hB); have ZA := HBXt.out; unfold Bx at ZA; clear hO hI hB)
          | (go_at_call 16; refine (specLeast p At _ ct bt 0 MD A' n' c' b' o' L _ HIT.out HLt.out HD.out HL.out HL0.out.1 HL0.out.2).mono ?_; rw [HXY.out.1, HXY.out.2]; rintro e wl ⟨v9, rfl, hO, hB⟩; have HO9 := Lib.hid hO; have hsz9 := HBt.out.size; have hlo9 := HWt.out.c.lt; have HBl := Lib.hid (below_more HBt.out hB); have HWl := Lib.hid (HWt.out.below hB); have HBXl := Lib.hid (HBXt.out.below hB); have ZB := HBXl.out; unfold Bx at ZB; clear hO hB)
          | (go_at_call 15; refine (specFit v9 p X Y _ _ HO9.out).mono ?_; rw [HF.out]; rintro e wf ⟨u9, rfl, _, hz, hB⟩; have hu9 := hz rfl; subst hu9; have HBf := Lib.hid (below_more HBl.out hB); have HWf := Lib.hid (HWl.out.below hB); have HBXf := Lib.hid (HBXl.out.below hB); have ZC := HBXf.out; unfold Bx at ZC; obtain ⟨x0, x1, x2⟩ := HWf.out.c; have fz := HWf.out.fz; clear hz hB))
      all_goals
        go_wp2_with (fail)
        refine bodyPost_ret (v := .tuple #[.agg #[.int .i64 0, .slice none 0 0, .slice none 0 0], .bool false]) (by simp [results, Tryd.f5, go_sem, x0, x1, x2]) rfl ?_
        rw [HR.out]
        exact madeb_no HBf.out (by omega)

    · have HR := Lib.hid (show fracShiftR p U L = some (p, X, Y) by rw [HE2, if_pos hf])
      have HF := Lib.hid hf
      clear HE2 hf
      go_wp2_with (fail)
      have HItd := Lib.hid (HIt.out.below (below_new_drew _))
      have HLad := Lib.hid (HLa.out.below (below_new_drew _))
      have hf0 : ∀ (W : World) (o o' : Nat) (v : Value), (W.setCell ⟨w.heap.size + 1, o, none⟩ v).cell? ⟨w.heap.size, o', none⟩ = W.cell? ⟨w.heap.size, o', none⟩ := fun W o o' v => World.cell?_setCell_far _ _ _ _ (by show w.heap.size + 1 ≠ w.heap.size; omega)
      have ZS := HBXb.out
      have Zd := HBXb.out.drew
      unfold Bx at ZS Zd
      go_region_held3 (fun w' => w'.cell? ⟨w.heap.size, 0, none⟩ = some (.int .i64 p) ∧ w'.cell? ⟨w.heap.size, 1, none⟩ = some (.slice A n c) ∧ w'.cell? ⟨w.heap.size, 2, none⟩ = some (.slice A' n' c')) (first | assumption | exact ZC | exact ZB | exact ZA | exact Zd | exact ZS | (simp only [hf0]; exact ZC) | go_keep)
        (first
          | (go_at_call 17; (with_reducible refine (specTrim Aa 0 ca ba 0 MD _ HItd.out (by omega) hcz hA).mono ?_); rw [HTR.out]; rintro e wt ⟨At, ct, rfl, hO, hB⟩; obtain ⟨bt, hI⟩ := hO.ia; have HIT := Lib.hid hI; have HBt := Lib.hid (below_more HBa.out.drew hB); have HWt := Lib.hid (HWa.out.drew.below hB); have HLt := Lib.hid (HLad.out.below hB); have HBXt := Lib.hid (HBXb.out.drew.below hB); have ZA := HBXt.out; unfold Bx at ZA; clear hO hI hB)
          | (go_at_call 16; refine (specLeast p At _ ct bt 0 MD A' n' c' b' o' L _ HIT.out HLt.out HD.out HL.out HL0.out.1 HL0.out.2).mono ?_; rw [HXY.out.1, HXY.out.2]; rintro e wl ⟨v9, rfl, hO, hB⟩; have HO9 := Lib.hid hO; have hsz9 := HBt.out.size; have hlo9 := HWt.out.c.lt; have HBl := Lib.hid (below_more HBt.out hB); have HWl := Lib.hid (HWt.out.below hB); have HBXl := Lib.hid (HBXt.out.below hB); have ZB := HBXl.out; unfold Bx at ZB; clear hO hB)
          | (go_at_call 15; refine (specFit v9 p X Y _ _ HO9.out).mono ?_; rw [HF.out]; rintro e wf ⟨u9, rfl, hz, _, hB⟩; obtain ⟨A8, c8, A9, c9, rfl, hO8, hO9, hap⟩ := hz rfl; have HR8 := Lib.hid (And.intro hO8 (And.intro hO9 hap)); have HBf := Lib.hid (below_more HBl.out hB); have HWf := Lib.hid (HWl.out.below hB); have HBXf := Lib.hid (HBXl.out.below hB); have ZC := HBXf.out; unfold Bx at ZC; obtain ⟨x0, x1, x2⟩ := HWf.out.c; have fz := HWf.out.fz; clear hz hB hO8 hO9 hap))
      all_goals
        go_wp2_with (fail)
        refine bodyPost_ret (v := .tuple #[.agg #[.int .i64 p, .slice A8 X.length c8, .slice A9 Y.length c9], .bool true]) (by simp [results, Tryd.f5, go_sem, x0, x1, x2]) rfl ?_
        rw [HR.out]
        exact madeb_put (R := some (p, X, Y)) (g := w.heap.size + 1) ⟨A8, c8, A9, c9, rfl, HR8.out.1, HR8.out.2.1, HR8.out.2.2⟩ HBf.out hsz9 (by omega) hlo9
  · have hm2 : 2 ≤ M.length := by
      rcases Nat.lt_or_ge M.length 2 with h | h
      · have h1 : M.length = 1 := by omega
        exact absurd HZ0.out (by have := (polB_last HPM.out).resolve_left hm; rwa [h1] at this)
      · exact h
    have hmi : (0 : Int) < (M.length : Int) := by omega
    have hc1 : ¬ ca = 1 := by omega
    have hm3 : (1 : Int) ≤ (M.length : Int) := by omega
    have hci : (M.length : Int) ≤ (ca : Int) := by omega
    obtain rfl := HIa.out.adr (by omega)
    have HIt := Lib.hid (show IA wa (some ⟨ba, 1, none⟩) (M.length - 1) ba 1 MD from by
      rw [← HMD.out]
      refine ⟨List.length_drop, fun _ => rfl, by have := HIa.out.big; omega, fun i hi => ?_⟩
      obtain ⟨y, hy, hcy⟩ := HIa.out.cell (i + 1) (by omega)
      rw [Nat.zero_add] at hcy
      exact ⟨y, by rw [List.getElem?_drop, Nat.add_comm 1 i]; exact hy, by rw [Nat.add_comm 1 i]; exact hcy⟩)
    have hcz : M.length - 1 ≤ ca - 1 := by omega
    clear hA hm
    obtain ⟨X, hX⟩ : ∃ X, (leastL p MD L).1 = X := ⟨_, rfl⟩
    obtain ⟨Y, hY⟩ : ∃ Y, (leastL p MD L).2 = Y := ⟨_, rfl⟩
    have HE2 := HE.out
    rw [hX, hY] at HE2
    have HXY := Lib.hid (And.intro hX hY)
    clear hX hY
    rcases hf : fracB p X Y
    · have HR := Lib.hid (show fracShiftR p U L = none by rw [HE2, if_neg (by simp [hf])])
      have HF := Lib.hid hf
      clear HE2 hf
      go_wp2_with (fail)
      have HItd := Lib.hid (HIt.out.below (below_new_drew _))
      have HLad := Lib.hid (HLa.out.below (below_new_drew _))
      have hf0 : ∀ (W : World) (o o' : Nat) (v : Value), (W.setCell ⟨w.heap.size + 1, o, none⟩ v).cell? ⟨w.heap.size, o', none⟩ = W.cell? ⟨w.heap.size, o', none⟩ := fun W o o' v => World.cell?_setCell_far _ _ _ _ (by show w.heap.size + 1 ≠ w.heap.size; omega)
      have ZS := HBXb.out
      have Zd := HBXb.out.drew
      unfold Bx at ZS Zd
      go_region_held3 (fun w' => w'.cell? ⟨w.heap.size, 0, none⟩ = some (.int .i64 p) ∧ w'.cell? ⟨w.heap.size, 1, none⟩ = some (.slice A n c) ∧ w'.cell? ⟨w.heap.size, 2, none⟩ = some (.slice A' n' c')) (first | assumption | exact ZC | exact ZB | exact ZA | exact Zd | exact ZS | (simp only [hf0]; exact ZC) | go_keep)
        (first
          | (go_at_call 17; (with_reducible refine (specTrim (some ⟨ba, 1, none⟩) (M.length - 1) (ca - 1) ba 1 MD _ HItd.out (by omega) hcz (.inr rfl)).mono ?_); rw [HTR.out]; rintro e wt ⟨At, ct, rfl, hO, hB⟩; obtain ⟨bt, hI⟩ := hO.ia; have HIT := Lib.hid hI; have HBt := Lib.hid (below_more HBa.out.drew hB); have HWt := Lib.hid (HWa.out.drew.below hB); have HLt := Lib.hid (HLad.out.below hB); have HBXt := Lib.hid (HBXb.out.drew.below hB); have ZA := HBXt.out; unfold Bx at ZA; clear hO hI hB)
          | (go_at_call 16; refine (specLeast p At _ ct bt 0 MD A' n' c' b' o' L _ HIT.out HLt.out HD.out HL.out HL0.out.1 HL0.out.2).mono ?_; rw [HXY.out.1, HXY.out.2]; rintro e wl ⟨v9, rfl, hO, hB⟩; have HO9 := Lib.hid hO; have hsz9 := HBt.out.size; have hlo9 := HWt.out.c.lt; have HBl := Lib.hid (below_more HBt.out hB); have HWl := Lib.hid (HWt.out.below hB); have HBXl := Lib.hid (HBXt.out.below hB); have ZB := HBXl.out; unfold Bx at ZB; clear hO hB)
          | (go_at_call 15; refine (specFit v9 p X Y _ _ HO9.out).mono ?_; rw [HF.out]; rintro e wf ⟨u9, rfl, _, hz, hB⟩; have hu9 := hz rfl; subst hu9; have HBf := Lib.hid (below_more HBl.out hB); have HWf := Lib.hid (HWl.out.below hB); have HBXf := Lib.hid (HBXl.out.below hB); have ZC := HBXf.out; unfold Bx at ZC; obtain ⟨x0, x1, x2⟩ := HWf.out.c; have fz := HWf.out.fz; clear hz hB))
      all_goals
        go_wp2_with (fail)
        refine bodyPost_ret (v := .tuple #[.agg #[.int .i64 0, .slice none 0 0, .slice none 0 0], .bool false]) (by simp [results, Tryd.f5, go_sem, x0, x1, x2]) rfl ?_
        rw [HR.out]
        exact madeb_no HBf.out (by omega)

    · have HR := Lib.hid (show fracShiftR p U L = some (p, X, Y) by rw [HE2, if_pos hf])
      have HF := Lib.hid hf
      clear HE2 hf
      go_wp2_with (fail)
      have HItd := Lib.hid (HIt.out.below (below_new_drew _))
      have HLad := Lib.hid (HLa.out.below (below_new_drew _))
      have hf0 : ∀ (W : World) (o o' : Nat) (v : Value), (W.setCell ⟨w.heap.size + 1, o, none⟩ v).cell? ⟨w.heap.size, o', none⟩ = W.cell? ⟨w.heap.size, o', none⟩ := fun W o o' v => World.cell?_setCell_far _ _ _ _ (by show w.heap.size + 1 ≠ w.heap.size; omega)
      have ZS := HBXb.out
      have Zd := HBXb.out.drew
      unfold Bx at ZS Zd
      go_region_held3 (fun w' => w'.cell? ⟨w.heap.size, 0, none⟩ = some (.int .i64 p) ∧ w'.cell? ⟨w.heap.size, 1, none⟩ = some (.slice A n c) ∧ w'.cell? ⟨w.heap.size, 2, none⟩ = some (.slice A' n' c')) (first | assumption | exact ZC | exact ZB | exact ZA | exact Zd | exact ZS | (simp only [hf0]; exact ZC) | go_keep)
        (first
          | (go_at_call 17; (with_reducible refine (specTrim (some ⟨ba, 1, none⟩) (M.length - 1) (ca - 1) ba 1 MD _ HItd.out (by omega) hcz (.inr rfl)).mono ?_); rw [HTR.out]; rintro e wt ⟨At, ct, rfl, hO, hB⟩; obtain ⟨bt, hI⟩ := hO.ia; have HIT := Lib.hid hI; have HBt := Lib.hid (below_more HBa.out.drew hB); have HWt := Lib.hid (HWa.out.drew.below hB); have HLt := Lib.hid (HLad.out.below hB); have HBXt := Lib.hid (HBXb.out.drew.below hB); have ZA := HBXt.out; unfold Bx at ZA; clear hO hI hB)
          | (go_at_call 16; refine (specLeast p At _ ct bt 0 MD A' n' c' b' o' L _ HIT.out HLt.out HD.out HL.out HL0.out.1 HL0.out.2).mono ?_; rw [HXY.out.1, HXY.out.2]; rintro e wl ⟨v9, rfl, hO, hB⟩; have HO9 := Lib.hid hO; have hsz9 := HBt.out.size; have hlo9 := HWt.out.c.lt; have HBl := Lib.hid (below_more HBt.out hB); have HWl := Lib.hid (HWt.out.below hB); have HBXl := Lib.hid (HBXt.out.below hB); have ZB := HBXl.out; unfold Bx at ZB; clear hO hB)
          | (go_at_call 15; refine (specFit v9 p X Y _ _ HO9.out).mono ?_; rw [HF.out]; rintro e wf ⟨u9, rfl, hz, _, hB⟩; obtain ⟨A8, c8, A9, c9, rfl, hO8, hO9, hap⟩ := hz rfl; have HR8 := Lib.hid (And.intro hO8 (And.intro hO9 hap)); have HBf := Lib.hid (below_more HBl.out hB); have HWf := Lib.hid (HWl.out.below hB); have HBXf := Lib.hid (HBXl.out.below hB); have ZC := HBXf.out; unfold Bx at ZC; obtain ⟨x0, x1, x2⟩ := HWf.out.c; have fz := HWf.out.fz; clear hz hB hO8 hO9 hap))
      all_goals
        go_wp2_with (fail)
        refine bodyPost_ret (v := .tuple #[.agg #[.int .i64 p, .slice A8 X.length c8, .slice A9 Y.length c9], .bool true]) (by simp [results, Tryd.f5, go_sem, x0, x1, x2]) rfl ?_
        rw [HR.out]
        exact madeb_put (R := some (p, X, Y)) (g := w.heap.size + 1) ⟨A8, c8, A9, c9, rfl, HR8.out.1, HR8.out.2.1, HR8.out.2.2⟩ HBf.out hsz9 (by omega) hlo9
end Go.Proofs.YtjbghoooldahlaaDoor
namespace Go.Proofs.YtjbghoooldahlaaDoor
open Go.RowKit
theorem negL_num {p : Int} (hp : primeB p = true) (f : List Int) : ∀ x ∈ negL p f, numB p x = true := by
  intro x hx
  obtain ⟨y, _, rfl⟩ := List.mem_map.1 hx
  exact numB_emod hp _
theorem IA.freshH {w : World} (x y : Int) : IA (w.alloc (.cells #[.int .i64 x, .int .i64 y] 3)) (some ⟨w.heap.size, 0, none⟩) 2 w.heap.size 0 [x, y] := by
  have h := World.ownsRow_lit (e := 3) (base := w.heap.size) (size := 1) w #[.int .i64 x, .int .i64 y] 2 (Nat.le_refl _) (by unfold maxLen; omega) (by simp)
  obtain ⟨b, h1, h2⟩ := OI.iaA (show OI (w.alloc (.cells #[.int .i64 x, .int .i64 y] 3)) w.heap.size (some ⟨w.heap.size, 0, none⟩) 2 2 [x, y] by unfold OI ints; exact h)
  rcases h2 with ⟨h3, _⟩ | h3
  · cases h3
  · cases h3; exact h1
set_option maxRecDepth 100000 in
set_option maxHeartbeats 16000000 in
theorem implFracShift (v : Value) (p : Int) (U L : List Int) (w : World) (h : RV w v p U L) (ge : Addr) (hge : GE w ge) :
    Calls Tryd.prog 7 #[v] w (MadeRB (fracShiftR p U L) w) := by
  obtain ⟨A, n, c, b, o, A', n', c', b', o', rfl, g1, g2⟩ := h
  have hbx := (Bx.new w (.int .i64 p) (.slice A n c) (.slice A' n' c') 26).below (below_new _ (.cells #[.int .i64 0, .slice none 0 0, .slice none 0 0] 26))
  have hbw := BxW.new (w.alloc (.cells #[.int .i64 p, .slice A n c, .slice A' n' c'] 26)) (.int .i64 0) (.slice none 0 0) (.slice none 0 0) 26
  rw [World.size_alloc] at hbw
  have hB0 := ((Below.refl w.heap.size w).alloc (Nat.le_refl _) (.cells #[.int .i64 p, .slice A n c, .slice A' n' c'] 26)).alloc (by simp) (.cells #[.int .i64 0, .slice none 0 0, .slice none 0 0] 26)
  have HV := Lib.hid (show RV _ (.agg #[.int .i64 p, .slice A n c, .slice A' n' c']) p U L from ⟨_, _, _, _, _, _, _, _, _, _, rfl, g1.below hB0, g2.below hB0⟩)
  have HBX := Lib.hid hbx
  have HBW := Lib.hid hbw
  have HG0 := Lib.hid (hge.below hB0)
  have HB0 := Lib.hid hB0
  clear hge g1 g2 hbx hbw hB0
  rcases hv : fracB p U L
  · have HV1 := Lib.hid hv
    have HE := Lib.hid (show fracShiftR p U L = none by unfold fracShiftR; rw [if_neg (by simp [hv])])
    clear hv
    go_enter Tryd.func7, Tryd.ntmps7
    go_wp2_with (go_at_call 19; refine (implFracValid _ p U L _ HV.out ge HG0.out).mono ?_; rintro e w1 ⟨rfl, hB⟩; rw [HV1.out]; have HB1 := Lib.hid (below_more HB0.out hB); have hbw := HBW.out.below hB; have x0 := hbw.c.1; have x1 := hbw.c.2.1; have x2 := hbw.c.2.2; have fz := hbw.fz; clear hB hbw)
    refine bodyPost_ret (v := .tuple #[.agg #[.int .i64 0, .slice none 0 0, .slice none 0 0], .bool false]) (by simp [results, Tryd.f7, go_sem, x0, x1, x2]) rfl ?_
    rw [HE.out]
    exact madeb_no HB1.out (by omega)
  have HV1 := Lib.hid hv
  obtain ⟨hu, hl, hu12, hl12, hl0, hl1⟩ := fracB_true hv
  have hpr := (serB_true (polB_ser hu)).1
  obtain ⟨s1, _, s3, s4, s5, s6, s7⟩ := shift_law hv
  obtain ⟨t, htt⟩ : ∃ t, shiftT p U L = t := ⟨_, rfl⟩
  have HONE := Lib.hid (show fracT p U L 1 = [t] by rw [show (1 : Int) = ((1 : Nat) : Int) from rfl, fracT_yes hv (by decide), frT_one, htt])
  have HTN := Lib.hid (show ∀ x ∈ [t], numB p x = true from fun x hx => by rw [List.mem_singleton.1 hx, ← htt]; exact shiftT_num hpr U L)
  rw [htt, scale_eq hpr] at s4
  obtain ⟨M, hM⟩ : ∃ M, shiftM p U L = M := ⟨_, rfl⟩
  rw [hM] at s1 s3 s4 s5 s6
  obtain ⟨SL, hSL⟩ : ∃ S, scaleL p t L = S := ⟨_, rfl⟩
  rw [hSL] at s4
  have HTM := Lib.hid (show trimL (tmsL p L [t]) = SL by rw [scale_eq hpr, hSL])
  have hsl : SL.length ≤ 12 := by rw [← hSL]; have := scale_len p t L; omega
  have HSN := Lib.hid (show ∀ x ∈ SL, numB p x = true by
    rw [← hSL]
    exact (serB_true (polB_ser (addL_pol t (serB_mk hpr (by simp) (by simp)) (polB_ser hl)))).2.2)
  obtain ⟨NL, hNL⟩ : ∃ N, negL p SL = N := ⟨_, rfl⟩
  have hnl : NL.length ≤ 12 := by rw [← hNL, negL_len]; omega
  have HNN := Lib.hid (show ∀ x ∈ NL, numB p x = true by rw [← hNL]; exact negL_num hpr _)
  rw [hNL] at s4
  obtain ⟨MD, hMD⟩ : ∃ D, M.drop 1 = D := ⟨_, rfl⟩
  rw [hMD] at s5 s6
  have HQ := Lib.hid (show (divP p M [0, 1]).1 = MD by rw [quo_fullF s1 s7 (by simp), s6])
  obtain ⟨RM, hRM⟩ : ∃ D, remL p M [0, 1] = D := ⟨_, rfl⟩
  have HRM := Lib.hid hRM
  obtain ⟨R, hR⟩ : ∃ R, fracShiftR p U L = R := ⟨_, rfl⟩
  have HE := Lib.hid (show leastR p MD L = R by rw [← hR, ← hMD, ← hM]; unfold fracShiftR; rw [if_pos hv])
  have HNL := Lib.hid hNL
  have HM := Lib.hid s4
  have HPR := Lib.hid hpr
  have HL := Lib.hid hl
  have HD := Lib.hid s5
  have HUV := Lib.hid (serB_true (polB_ser hu)).2.2
  have HLV := Lib.hid (serB_true (polB_ser hl)).2.2
  have HMV := Lib.hid (serB_true (polB_ser s1)).2.2
  have HXV := Lib.hid (serB_true (polB_ser s7)).2.2
  have HXL := Lib.hid (show co [0, 1] (([0, 1] : List Int).length - 1) ≠ 0 by simp [co])
  have HFT := Lib.hid (show trimL M = M from trim_pol (polB_last s1))
  have HUL := Lib.hid (show U.length ≤ 100000 ∧ U.length ≤ 1048576 by omega)
  have HLL := Lib.hid (show L.length ≤ 100000 ∧ L.length ≤ 1048576 by omega)
  have HSS := Lib.hid (show SL.length ≤ 100000 ∧ NL.length ≤ 100000 ∧ M.length ≤ 100000 by omega)
  rw [hR]
  clear hv hu hl hu12 hl12 hl0 hl1 hR s1 s3 s4 s5 s6 s7 hpr htt hM hSL hNL hMD hRM hsl hnl
  go_enter Tryd.func7, Tryd.ntmps7
  go_wp2_with (go_at_call 19; refine (implFracValid _ p U L _ HV.out ge HG0.out).mono ?_; rintro e w1 ⟨rfl, hB⟩; rw [HV1.out]; have HB1 := Lib.hid (below_more HB0.out hB); clear HV1; have HV1 := Lib.hid (HV.out.below hB); have HG1 := Lib.hid (HG0.out.below hB); have HW1 := Lib.hid (HBW.out.below hB); have HBX1 := Lib.hid (HBX.out.below hB); have y0 := HBX1.out.1; have y1 := HBX1.out.2.1; have y2 := HBX1.out.2.2; clear hB)
  clear y0 y1 y2
  have ZS := HBX1.out
  have Zd := HBX1.out.drew
  unfold Bx at ZS Zd
  have hf0 : ∀ (W : World) (o o' : Nat) (v : Value), (W.setCell ⟨w.heap.size + 1, o, none⟩ v).cell? ⟨w.heap.size, o', none⟩ = W.cell? ⟨w.heap.size, o', none⟩ := fun W o o' v => World.cell?_setCell_far _ _ _ _ (by show w.heap.size + 1 ≠ w.heap.size; omega)
  go_region_held3 (fun w' => w'.cell? ⟨w.heap.size, 0, none⟩ = some (.int .i64 p) ∧ w'.cell? ⟨w.heap.size, 1, none⟩ = some (.slice A n c) ∧ w'.cell? ⟨w.heap.size, 2, none⟩ = some (.slice A' n' c')) (first | assumption | exact Z3 | exact Z2 | exact Zd | exact ZS | (simp only [hf0]; exact Z3) | go_keep)
    (first
      | (go_at_call 21; refine (implFracTerms _ p U L 1 _ (HV1.out.below (below_new_drew _)) ge HG1.out.drew).mono ?_; rw [HONE.out]; rintro e w2 ⟨r2A, r2c, rfl, hO, hB⟩; obtain ⟨r2b, hI⟩ := OI.ia hO; have Hr2_2 := Lib.hid hI; have HB2 := Lib.hid (below_more HB1.out.drew hB); have HV2 := Lib.hid ((HV1.out.below (below_new_drew _)).below hB); have HG2 := Lib.hid (HG1.out.drew.below hB); have HW2 := Lib.hid (HW1.out.drew.below hB); have HBX2 := Lib.hid (HBX1.out.drew.below hB); have Z2 := HBX2.out; unfold Bx at Z2; clear hO hI hB)
      | (go_at_call 20; refine (termsOf_any p r2A _ r2c r2b 0 [t] _ Hr2_2.out (by simp)).mono ?_; rintro e w3 ⟨r3A, r3c, rfl, hO, hB⟩; obtain ⟨r3b, hI⟩ := OT.it hO; have Hr3_3 := Lib.hid hI; have HB3 := Lib.hid (below_more HB2.out hB); have HV3 := Lib.hid (HV2.out.below hB); have HG3 := Lib.hid (HG2.out.below hB); have HW3 := Lib.hid (HW2.out.below hB); have HBX3 := Lib.hid (HBX2.out.below hB); have Hr2_3 := Lib.hid (Hr2_2.out.below hB); have Z3 := HBX3.out; unfold Bx at Z3; clear hO hI hB))
  all_goals
    clear ZS Zd hf0
    go_wp2_with (fail)
    have ZS := HBX3.out
    have Zd := HBX3.out.drew
    unfold Bx at ZS Zd
    have hf0 : ∀ (W : World) (o o' : Nat) (v : Value), (W.setCell ⟨w.heap.size + 1, o, none⟩ v).cell? ⟨w.heap.size, o', none⟩ = W.cell? ⟨w.heap.size, o', none⟩ := fun W o o' v => World.cell?_setCell_far _ _ _ _ (by show w.heap.size + 1 ≠ w.heap.size; omega)
    go_region_held3 (fun w' => w'.cell? ⟨w.heap.size, 0, none⟩ = some (.int .i64 p) ∧ w'.cell? ⟨w.heap.size, 1, none⟩ = some (.slice A n c) ∧ w'.cell? ⟨w.heap.size, 2, none⟩ = some (.slice A' n' c')) (first | assumption | exact Z8 | exact Z7 | exact Z6 | exact Z5 | exact Z4 | exact Zd | exact ZS | (simp only [hf0]; exact Z8) | go_keep)
      (first
        | (go_at_call 22; (with_reducible refine (upper_any _ p U L _ (HV3.out.below (below_new_drew _)) HUL.out.2).mono ?_); rintro e w4 ⟨r4A, r4c, rfl, hO, hB⟩; obtain ⟨r4b, hI⟩ := OT.it hO; have Hr4_4 := Lib.hid hI; have HB4 := Lib.hid (below_more HB3.out.drew hB); have HV4 := Lib.hid ((HV3.out.below (below_new_drew _)).below hB); have HG4 := Lib.hid (HG3.out.drew.below hB); have HW4 := Lib.hid (HW3.out.drew.below hB); have HBX4 := Lib.hid (HBX3.out.drew.below hB); have Hr3_4 := Lib.hid ((Hr3_3.out.below (below_new_drew _)).below hB); have Z4 := HBX4.out; unfold Bx at Z4; clear hO hI hB)
        | (go_at_call 24; (with_reducible refine (lower_any _ p U L _ HV4.out HLL.out.2).mono ?_); rintro e w5 ⟨r5A, r5c, rfl, hO, hB⟩; obtain ⟨r5b, hI⟩ := OT.it hO; have Hr5_5 := Lib.hid hI; have HB5 := Lib.hid (below_more HB4.out hB); have HV5 := Lib.hid (HV4.out.below hB); have HG5 := Lib.hid (HG4.out.below hB); have HW5 := Lib.hid (HW4.out.below hB); have HBX5 := Lib.hid (HBX4.out.below hB); have Hr3_5 := Lib.hid (Hr3_4.out.below hB); have Hr4_5 := Lib.hid (Hr4_4.out.below hB); have Z5 := HBX5.out; unfold Bx at Z5; clear hO hI hB)
        | (go_at_call 25; refine (times_any p r5A _ r5c r5b L r3A _ r3c r3b [t] _ Hr5_5.out Hr3_5.out HLV.out HTN.out HLL.out.1 (by simp)).mono ?_; rw [HTM.out]; rintro e w6 ⟨r6A, r6c, rfl, hO, hB⟩; obtain ⟨r6b, hI⟩ := OT.it hO; have Hr6_6 := Lib.hid hI; have HB6 := Lib.hid (below_more HB5.out hB); have HV6 := Lib.hid (HV5.out.below hB); have HG6 := Lib.hid (HG5.out.below hB); have HW6 := Lib.hid (HW5.out.below hB); have HBX6 := Lib.hid (HBX5.out.below hB); have Hr3_6 := Lib.hid (Hr3_5.out.below hB); have Hr4_6 := Lib.hid (Hr4_5.out.below hB); have Hr5_6 := Lib.hid (Hr5_5.out.below hB); have Z6 := HBX6.out; unfold Bx at Z6; clear hO hI hB)
        | (go_at_call 26; (with_reducible refine (neg_any p r6A _ r6c r6b SL _ Hr6_6.out HSN.out HSS.out.1).mono ?_); rw [HNL.out]; rintro e w7 ⟨r7A, r7c, rfl, hO, hB⟩; obtain ⟨r7b, hI⟩ := OT.it hO; have Hr7_7 := Lib.hid hI; have HB7 := Lib.hid (below_more HB6.out hB); have HV7 := Lib.hid (HV6.out.below hB); have HG7 := Lib.hid (HG6.out.below hB); have HW7 := Lib.hid (HW6.out.below hB); have HBX7 := Lib.hid (HBX6.out.below hB); have Hr3_7 := Lib.hid (Hr3_6.out.below hB); have Hr4_7 := Lib.hid (Hr4_6.out.below hB); have Hr5_7 := Lib.hid (Hr5_6.out.below hB); have Hr6_7 := Lib.hid (Hr6_6.out.below hB); have Z7 := HBX7.out; unfold Bx at Z7; clear hO hI hB)
        | (go_at_call 23; (with_reducible refine (plus_any p r4A _ r4c r4b U r7A _ r7c r7b NL _ Hr4_7.out Hr7_7.out HPR.out HUV.out HNN.out HUL.out.1 HSS.out.2.1).mono ?_); rw [HM.out]; rintro e w8 ⟨r8A, r8c, rfl, hO, hB⟩; obtain ⟨r8b, hI⟩ := OT.it hO; have Hr8_8 := Lib.hid hI; have HB8 := Lib.hid (below_more HB7.out hB); have HV8 := Lib.hid (HV7.out.below hB); have HG8 := Lib.hid (HG7.out.below hB); have HW8 := Lib.hid (HW7.out.below hB); have HBX8 := Lib.hid (HBX7.out.below hB); have Hr3_8 := Lib.hid (Hr3_7.out.below hB); have Hr4_8 := Lib.hid (Hr4_7.out.below hB); have Hr5_8 := Lib.hid (Hr5_7.out.below hB); have Hr6_8 := Lib.hid (Hr6_7.out.below hB); have Hr7_8 := Lib.hid (Hr7_7.out.below hB); have Z8 := HBX8.out; unfold Bx at Z8; clear hO hI hB))
    all_goals
      clear ZS Zd hf0
      go_wp2_with (fail)
      refine (termsOf_any p _ 2 2 _ 0 [0, 1] _ (IA.freshH 0 1) (by decide)).mono ?_
      rintro e w9 ⟨r9A, r9c, rfl, hO, hB0⟩
      obtain ⟨r9b, hI⟩ := OT.it hO
      have Hr9 := Lib.hid hI
      have hB := ((Below.refl w8.heap.size w8).alloc (Nat.le_refl _) (.cells #[.int .i64 0, .int .i64 1] 3)).trans (hB0.mono (by simp))
      have HB9 := Lib.hid (below_more HB8.out hB)
      have HV9 := Lib.hid (HV8.out.below hB)
      have HG9 := Lib.hid (HG8.out.below hB)
      have HW9 := Lib.hid (HW8.out.below hB)
      have HBX9 := Lib.hid (HBX8.out.below hB)
      have Hr8 := Lib.hid (Hr8_8.out.below hB)
      clear hO hI hB0 hB
      go_wp2_with (fail)
      refine (divide_any p r8A _ r8c r8b M r9A _ r9c r9b [0, 1] _ Hr8.out Hr9.out HPR.out HMV.out HXV.out HSS.out.2.2 (by simp) (by simp) HXL.out HFT.out).mono ?_
      rw [HQ.out]
      rintro e w10 ⟨qA, qc, uA, uc, rfl, hO, _, hB⟩
      obtain ⟨qb, hI⟩ := OT.it hO
      have Hq_10 := Lib.hid hI
      have HB10 := Lib.hid (below_more HB9.out hB)
      have HV10 := Lib.hid (HV9.out.below hB)
      have HG10 := Lib.hid (HG9.out.below hB)
      have HW10 := Lib.hid (HW9.out.below hB)
      have HBX10 := Lib.hid (HBX9.out.below hB)
      clear hO hI hB
      obtain ⟨y0, y1, y2⟩ := HBX10.out
      go_wp2_with (fail)
      clear y0 y1 y2
      have ZS := HBX10.out
      have Zd := HBX10.out.drew
      unfold Bx at ZS Zd
      have hf0 : ∀ (W : World) (o o' : Nat) (v : Value), (W.setCell ⟨w.heap.size + 1, o, none⟩ v).cell? ⟨w.heap.size, o', none⟩ = W.cell? ⟨w.heap.size, o', none⟩ := fun W o o' v => World.cell?_setCell_far _ _ _ _ (by show w.heap.size + 1 ≠ w.heap.size; omega)
      go_region_held3 (fun w' => w'.cell? ⟨w.heap.size, 0, none⟩ = some (.int .i64 p) ∧ w'.cell? ⟨w.heap.size, 1, none⟩ = some (.slice A n c) ∧ w'.cell? ⟨w.heap.size, 2, none⟩ = some (.slice A' n' c')) (first | assumption | exact Z12 | exact Z11 | exact Zd | exact ZS | (simp only [hf0]; exact Z12) | go_keep)
        (first
          | (go_at_call 24; (with_reducible refine (lower_any _ p U L _ (HV10.out.below (below_new_drew _)) HLL.out.2).mono ?_); rintro e w11 ⟨r5xA, r5xc, rfl, hO, hB⟩; obtain ⟨r5xb, hI⟩ := OT.it hO; have Hr5x_11 := Lib.hid hI; have HB11 := Lib.hid (below_more HB10.out.drew hB); have HV11 := Lib.hid ((HV10.out.below (below_new_drew _)).below hB); have HG11 := Lib.hid (HG10.out.drew.below hB); have HW11 := Lib.hid (HW10.out.drew.below hB); have HBX11 := Lib.hid (HBX10.out.drew.below hB); have Hq_11 := Lib.hid ((Hq_10.out.below (below_new_drew _)).below hB); have Z11 := HBX11.out; unfold Bx at Z11; clear hO hI hB)
          | (go_at_call 28; refine (leastFrac_any p qA _ qc qb MD r5xA _ r5xc r5xb L _ Hq_11.out Hr5x_11.out HD.out HL.out ge HG11.out).mono ?_; rw [HE.out]; rintro e w12 ⟨_, rfl, ⟨A8, c8, A9, c9, rfl, hO8, hO9, hap⟩, hB⟩; have HR8 := Lib.hid (And.intro hO8 (And.intro hO9 hap)); have hsz3 := HB11.out.size; have hlo4 := HW11.out.c.lt; have HB12 := Lib.hid (below_more HB11.out hB); have HV12 := Lib.hid (HV11.out.below hB); have HG12 := Lib.hid (HG11.out.below hB); have HW12 := Lib.hid (HW11.out.below hB); have HBX12 := Lib.hid (HBX11.out.below hB); have Hq_12 := Lib.hid (Hq_11.out.below hB); have Hr5x_12 := Lib.hid (Hr5x_11.out.below hB); have Z12 := HBX12.out; unfold Bx at Z12; obtain ⟨x0, x1, x2⟩ := HW12.out.c; have fz := HW12.out.fz; clear hO8 hO9 hap hB))
      all_goals
        go_wp2_with (fail)
        refine bodyPost_ret (v := .tuple #[.agg #[.int .i64 (R.getD (0, [], [])).1, .slice A8 (R.getD (0, [], [])).2.1.length c8, .slice A9 (R.getD (0, [], [])).2.2.length c9], .bool R.isSome]) (by simp [results, Tryd.f7, go_sem, x0, x1, x2]) rfl ?_
        exact madeb_put (g := w.heap.size + 1) ⟨A8, c8, A9, c9, rfl, HR8.out.1, HR8.out.2.1, HR8.out.2.2⟩ HB12.out hsz3 (by omega) hlo4
end Go.Proofs.YtjbghoooldahlaaDoor
