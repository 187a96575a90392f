/-
  The contract of the model's MatTimes, whole.
-/
import Derived.Test.YtpelokdgjdljfabTimesS
namespace Go.Proofs.Ytpelokdgjdljfab
open Go.RowKit
theorem specMatTimes (p : Int) (A : Option Addr) (n c b o : Nat) (X : List (List Int)) (A' : Option Addr) (n' c' b' o' : Nat) (Y : List (List Int)) (w : World) (h : RA w A n b o X) (h' : RA w A' n' b' o' Y) :
    Calls Try.prog 18 #[.int .i64 p, .slice A n c, .slice A' n' c'] w (GivesM (timesR p X Y) w) := by
  have hbig := h.big
  have hbig' := h'.big
  have H := Lib.hid h
  have H' := Lib.hid h'
  clear h h'
  rcases hv : matB p X
  · have HV := Lib.hid hv
    have HR := Lib.hid (show timesR p X Y = [] from timesR_no (by rw [hv]; simp))
    clear hv
    go_enter Try.func18, Try.ntmps18
    go_wp2_with (fail)
    refine (specMatValid p A n c b o X _ H.out).mono ?_
    rintro e w1 ⟨rfl, hm⟩
    rw [HV.out]
    go_wp2_with (fail)
    go_ret
    exact ⟨_, _, 0, 0, by rw [HR.out]; rfl, by rw [HR.out]; exact RA.nil _ _, (below_drawn (Below.refl _ _) hm).alloc (below_drawn (Below.refl w.heap.size _) hm).size _⟩
  rcases hv' : matB p Y
  · have HV := Lib.hid hv
    have HV' := Lib.hid hv'
    have HR := Lib.hid (show timesR p X Y = [] from timesR_no (by rw [hv']; simp))
    clear hv hv'
    go_enter Try.func18, Try.ntmps18
    go_wp2_with (fail)
    refine (specMatValid p A n c b o X _ H.out).mono ?_
    rintro e w1 ⟨rfl, hm⟩
    rw [HV.out]
    have hB1 := below_drawn (Below.refl w.heap.size _) hm
    go_wp2_with (fail)
    refine (specMatValid p A' n' c' b' o' Y _ (H'.out.below hB1)).mono ?_
    rintro e w2 ⟨rfl, hm2⟩
    rw [HV'.out]
    have hB2 := below_drawn hB1 hm2
    go_wp2_with (fail)
    go_ret
    exact ⟨_, _, 0, 0, by rw [HR.out]; rfl, by rw [HR.out]; exact RA.nil _ _, hB2.alloc hB2.size _⟩
  obtain ⟨hn1, hn8, hl1, hl8, hrows⟩ := matB_true hv
  obtain ⟨hn1', hn8', hl1', hl8', hrows'⟩ := matB_true hv'
  have hL := H.out.len
  have hL' := H'.out.len
  rw [hL] at hn1 hn8
  rw [hL'] at hn1' hn8'
  obtain ⟨row0, A0, c0, b0, o0, hr0, hc0, hI0⟩ := H.out.row 0 (by omega)
  obtain rfl := H.out.adr (by omega)
  have hrl0 := headD_of hr0
  have hbig0 := hI0.big
  have HC0 := Lib.hid hc0
  by_cases hq : row0.length = n'
  · have hqb : ((row0.length : Int) != (n' : Int)) = false := eqInt hq
    have HT := Lib.hid (show timesR p X Y = timesM p X Y from timesR_yes ⟨hv, hv', by rw [hrl0, hL']; exact hq⟩)
    have HQ := Lib.hid (show (X.headD []).length = Y.length by rw [hrl0, hL']; exact hq)
    have HV := Lib.hid hv
    have HV' := Lib.hid hv'
    clear hrows hrows' hv hv' hr0 hI0 hrl0 hL hL' hq hc0
    go_enter Try.func18, Try.ntmps18
    go_wp2_with (fail)
    refine (specMatValid p _ n c b o X _ H.out).mono ?_
    rintro e w1 ⟨rfl, hm⟩
    rw [HV.out]
    have hB1 := below_drawn (Below.refl w.heap.size _) hm
    go_wp2_with (fail)
    refine (specMatValid p A' n' c' b' o' Y _ (H'.out.below hB1)).mono ?_
    rintro e w2 ⟨rfl, hm2⟩
    rw [HV'.out]
    have hB2 := below_drawn hB1 hm2
    have hc2 := (keep_of_below hB2).cell HC0.out (fun h => h)
    rw [Nat.add_zero] at hc2
    go_wp2_with (fail)
    refine (specTimes p _ n c b o X A' n' c' b' o' Y _ (H.out.below hB2) (H'.out.below hB2) HV.out HV'.out HQ.out).mono ?_
    rintro e w3 ⟨As, cs, bs, os, rfl, hS, hB3⟩
    go_wp2_with (fail)
    go_ret
    exact ⟨As, cs, bs, os, by rw [HT.out]; rfl, by rw [HT.out]; exact hS, below_more hB2 hB3⟩
  · have hqb : ((row0.length : Int) != (n' : Int)) = true := neInt hq
    have HR := Lib.hid (show timesR p X Y = [] from timesR_no (by rw [hrl0, hL']; simp [hq]))
    have HV := Lib.hid hv
    have HV' := Lib.hid hv'
    clear hrows hrows' hv hv' hr0 hI0 hrl0 hL hL' hq hc0
    go_enter Try.func18, Try.ntmps18
    go_wp2_with (fail)
    refine (specMatValid p _ n c b o X _ H.out).mono ?_
    rintro e w1 ⟨rfl, hm⟩
    rw [HV.out]
    have hB1 := below_drawn (Below.refl w.heap.size _) hm
    go_wp2_with (fail)
    refine (specMatValid p A' n' c' b' o' Y _ (H'.out.below hB1)).mono ?_
    rintro e w2 ⟨rfl, hm2⟩
    rw [HV'.out]
    have hB2 := below_drawn hB1 hm2
    have hc2 := (keep_of_below hB2).cell HC0.out (fun h => h)
    rw [Nat.add_zero] at hc2
    go_wp2_with (fail)
    go_ret
    exact ⟨_, _, 0, 0, by rw [HR.out]; rfl, by rw [HR.out]; exact RA.nil _ _, hB2.alloc hB2.size _⟩
theorem timesR_tot (p : Int) (X Y : List (List Int)) : tot (timesR p X Y) ≤ 64 := by
  by_cases h : matB p X = true ∧ matB p Y = true ∧ (X.headD []).length = Y.length
  · rw [timesR_yes h]
    obtain ⟨h1, h2, h3, h4, _⟩ := matB_true h.1
    obtain ⟨_, _, _, g4, _⟩ := matB_true h.2.1
    have := tot_rows (timesM p X Y) 8 (fun row hr => by
      unfold timesM at hr
      obtain ⟨r, _, rfl⟩ := List.mem_map.1 hr
      rw [timesRow_len]; exact g4)
    rw [timesM_len] at this
    omega
  · rw [timesR_no h]; simp [tot]
end Go.Proofs.Ytpelokdgjdljfab
