/-
  The contracts of SeriesTimes, of the program and of its model.
-/
import Derived.Test.YtllakclbgmingaaDoorTi
import Derived.Test.YtllakclbgmingaaDoorPTimes
import Derived.Test.YtllakclbgmingaaDoorPolN
namespace Go.Proofs.YtllakclbgmingaaDoor
open Go.RowKit
def serT (p : Int) (s t : List Int) : List Int := if serB p s = true ∧ serB p t = true then serL p s t else []
theorem serL_len (p : Int) (s t : List Int) : (serL p s t).length = min s.length t.length := convR_len _ _ _ _
theorem serT_bd (p : Int) (s t : List Int) : (serT p s t).length ≤ 1048576 := by
  unfold serT
  split
  · rename_i h
    have := (serB_true h.1).2.1
    rw [serL_len]; omega
  · simp
set_option maxHeartbeats 1000000 in
theorem implSeriesTimes (p : Int) (A : Option Addr) (n c b o : Nat) (f : List Int) (A' : Option Addr) (n' c' b' o' : Nat) (g : List Int) (w : World) (h : IA w A n b o f) (h' : IA w A' n' b' o' g) :
    Calls Tryd.prog 37 #[.int .i64 p, .slice A n c, .slice A' n' c'] w (MadeI (serT p f g).length (serT p f g) w) := by
  have hl := h.len
  have hl' := h'.len
  have H := Lib.hid h
  have H' := Lib.hid h'
  clear h h'
  rcases hv : serB p f
  · have HV := Lib.hid hv
    have HR := Lib.hid (show serT p f g = [] by unfold serT; rw [if_neg (by simp [hv])])
    clear hv
    go_enter Tryd.func37, Tryd.ntmps37
    go_wp2_with (fail)
    refine (implSeriesValid p A n c b o f _ H.out).mono ?_
    rintro e w1 ⟨rfl, rfl⟩
    rw [HV.out]
    go_wp2_with (fail)
    go_ret
    rw [HR.out]; exact ⟨none, 0, rfl, World.ownsRow_nil _ _ _ _, Below.refl _ _⟩
  rcases hv' : serB p g
  · have HV := Lib.hid hv
    have HV' := Lib.hid hv'
    have HR := Lib.hid (show serT p f g = [] by unfold serT; rw [if_neg (by simp [hv'])])
    clear hv hv'
    go_enter Tryd.func37, Tryd.ntmps37
    go_wp2_with (fail)
    refine (implSeriesValid p A n c b o f _ H.out).mono ?_
    rintro e w1 ⟨rfl, rfl⟩
    rw [HV.out]
    go_wp2_with (fail)
    refine (implSeriesValid p A' n' c' b' o' g _ H'.out).mono ?_
    rintro e w2 ⟨rfl, rfl⟩
    rw [HV'.out]
    go_wp2_with (fail)
    go_ret
    rw [HR.out]; exact ⟨none, 0, rfl, World.ownsRow_nil _ _ _ _, Below.refl _ _⟩
  · have HV := Lib.hid hv
    have HV' := Lib.hid hv'
    have HR := Lib.hid (show serT p f g = serL p f g by unfold serT; rw [if_pos ⟨hv, hv'⟩])
    obtain ⟨hp, hfl, hfv⟩ := serB_true hv
    obtain ⟨_, hgl, hgv⟩ := serB_true hv'
    have HP := Lib.hid hp
    have HFV := Lib.hid hfv
    have HGV := Lib.hid hgv
    clear hv hv' hp hfv hgv
    obtain ⟨N, hN⟩ : ∃ N, min n n' = N := ⟨_, rfl⟩
    have HS := Lib.hid (show serL p f g = convR p f g N by unfold serL; rw [hl, hl', hN])
    have hNb : N ≤ 24 := by omega
    have hN1 : 0 < N → 0 < n ∧ 0 < n' ∧ N + 1 ≤ n + n' := by omega
    have HN1 := Lib.hid hN1
    have hcs : (n' < n ∧ N = n') ∨ (¬ n' < n ∧ N = n) := by omega
    clear hN hN1
    rcases hcs with ⟨h1, h2⟩ | ⟨h1, h2⟩
    · obtain rfl : n' = N := h2.symm
      go_enter Tryd.func37, Tryd.ntmps37
      go_wp2_with (fail)
      refine (implSeriesValid p A n c b o f _ H.out).mono ?_
      rintro e w1 ⟨rfl, rfl⟩
      rw [HV.out]
      go_wp2_with (fail)
      refine (implSeriesValid p A' n' c' b' o' g _ H'.out).mono ?_
      rintro e w2 ⟨rfl, rfl⟩
      rw [HV'.out]
      go_wp2_with (fail)
      refine (termsOf_any p A n c b o f _ H.out (by omega)).mono ?_
      rintro e w3 ⟨A3, c3, rfl, hO3, hB3⟩
      rw [hl] at hO3 ⊢
      obtain ⟨b3, hI3⟩ := OT.it hO3
      have HI3 := Lib.hid hI3
      clear hO3 hI3
      go_wp2_with (fail)
      refine (termsOf_any p A' n' c' b' o' g _ (H'.out.below hB3) (by omega)).mono ?_
      rintro e w4 ⟨A4, c4, rfl, hO4, hB4⟩
      rw [hl'] at hO4 ⊢
      obtain ⟨b4, hI4⟩ := OT.it hO4
      have HI4 := Lib.hid hI4
      have HI3' := Lib.hid (HI3.out.below hB4)
      have hB4' := below_more hB3 hB4
      clear hO4 hI4 hB3 hB4
      go_wp2_with (fail)
      refine (firstOf_any p A3 n c3 b3 f A4 n' c4 b4 g _ _ HI3'.out HI4.out HFV.out HGV.out (by omega) (by omega) HN1.out (by omega)).mono ?_
      rw [← HS.out]
      rintro e w5 ⟨A5, c5, rfl, hO5, hB5⟩
      obtain ⟨b5, hI5⟩ := OT.it hO5
      have HI5 := Lib.hid hI5
      have hB5' := below_more hB4' hB5
      have hsl := serL_len p f g
      have hsb : (serL p f g).length ≤ 24 := by omega
      obtain ⟨T, hT⟩ : ∃ T, serL p f g = T := ⟨_, rfl⟩
      rw [hT] at HI5 hsb ⊢
      have HT := Lib.hid hT
      clear hO5 hI5 hB4' hB5 hsl hT HS
      go_wp2_with (fail)
      refine (numbersOf_any p A5 _ c5 b5 T _ HI5.out (by omega)).mono ?_
      rintro e w6 ⟨A6, c6, rfl, hO6, hB6⟩
      have HO6 := Lib.hid hO6
      have hB6' := below_more hB5' hB6
      have hB5s := hB5'.size
      clear hO6 hB5' hB6
      go_wp2_with (fail)
      go_ret
      rw [HR.out, HT.out]
      exact ⟨_, _, rfl, owns_mono HO6.out hB5s, hB6'⟩
    · obtain rfl : n = N := h2.symm
      go_enter Tryd.func37, Tryd.ntmps37
      go_wp2_with (fail)
      refine (implSeriesValid p A n c b o f _ H.out).mono ?_
      rintro e w1 ⟨rfl, rfl⟩
      rw [HV.out]
      go_wp2_with (fail)
      refine (implSeriesValid p A' n' c' b' o' g _ H'.out).mono ?_
      rintro e w2 ⟨rfl, rfl⟩
      rw [HV'.out]
      go_wp2_with (fail)
      refine (termsOf_any p A n c b o f _ H.out (by omega)).mono ?_
      rintro e w3 ⟨A3, c3, rfl, hO3, hB3⟩
      rw [hl] at hO3 ⊢
      obtain ⟨b3, hI3⟩ := OT.it hO3
      have HI3 := Lib.hid hI3
      clear hO3 hI3
      go_wp2_with (fail)
      refine (termsOf_any p A' n' c' b' o' g _ (H'.out.below hB3) (by omega)).mono ?_
      rintro e w4 ⟨A4, c4, rfl, hO4, hB4⟩
      rw [hl'] at hO4 ⊢
      obtain ⟨b4, hI4⟩ := OT.it hO4
      have HI4 := Lib.hid hI4
      have HI3' := Lib.hid (HI3.out.below hB4)
      have hB4' := below_more hB3 hB4
      clear hO4 hI4 hB3 hB4
      go_wp2_with (fail)
      refine (firstOf_any p A3 n c3 b3 f A4 n' c4 b4 g _ _ HI3'.out HI4.out HFV.out HGV.out (by omega) (by omega) HN1.out (by omega)).mono ?_
      rw [← HS.out]
      rintro e w5 ⟨A5, c5, rfl, hO5, hB5⟩
      obtain ⟨b5, hI5⟩ := OT.it hO5
      have HI5 := Lib.hid hI5
      have hB5' := below_more hB4' hB5
      have hsl := serL_len p f g
      have hsb : (serL p f g).length ≤ 24 := by omega
      obtain ⟨T, hT⟩ : ∃ T, serL p f g = T := ⟨_, rfl⟩
      rw [hT] at HI5 hsb ⊢
      have HT := Lib.hid hT
      clear hO5 hI5 hB4' hB5 hsl hT HS
      go_wp2_with (fail)
      refine (numbersOf_any p A5 _ c5 b5 T _ HI5.out (by omega)).mono ?_
      rintro e w6 ⟨A6, c6, rfl, hO6, hB6⟩
      have HO6 := Lib.hid hO6
      have hB6' := below_more hB5' hB6
      have hB5s := hB5'.size
      clear hO6 hB5' hB6
      go_wp2_with (fail)
      go_ret
      rw [HR.out, HT.out]
      exact ⟨_, _, rfl, owns_mono HO6.out hB5s, hB6'⟩
end Go.Proofs.YtllakclbgmingaaDoor
