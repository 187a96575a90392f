/-
  The contracts of PolyTimes, of the program and of its model.
-/
import Derived.Test.YtmmadmfpbancmabTi
import Derived.Test.YtmmadmfpbancmabPTimes
import Derived.Test.YtmmadmfpbancmabPolN
namespace Go.Proofs.Ytmmadmfpbancmab
open Go.RowKit
def polTimes (p : Int) (f g : List Int) : Option (List Int) := if polB p f = true ∧ polB p g = true ∧ tmsN f g ≤ 24 then some (tmsL p f g) else none
theorem polTimes_bd (p : Int) (f g : List Int) : ((polTimes p f g).getD []).length ≤ 1048576 := by
  unfold polTimes
  split
  · rename_i h
    show (tmsL p f g).length ≤ _
    rw [tmsL_len]; omega
  · simp
theorem tms_trim {p : Int} {f g : List Int} (hf : polB p f = true) (hg : polB p g = true) : trimL (tmsL p f g) = tmsL p f g := trim_pol (tmsL_last hf hg)

set_option maxHeartbeats 1000000 in
theorem implPolyTimes (p : Int) (A : Option Addr) (n c b o : Nat) (f : List Int) (A' : Option Addr) (n' c' b' o' : Nat) (g : List Int) (w : World) (h : IA w A n b o f) (h' : IA w A' n' b' o' g) :
    Calls Try.prog 22 #[.int .i64 p, .slice A n c, .slice A' n' c'] w (MadeO (polTimes p f g) w) := by
  have hl := h.len
  have hl' := h'.len
  have H := Lib.hid h
  have H' := Lib.hid h'
  clear h h'

  rcases hv : polB p f
  · have HV := Lib.hid hv
    have HR := Lib.hid (show polTimes p f g = none by unfold polTimes; rw [if_neg (by simp [hv])])
    clear hv
    go_enter Try.func22, Try.ntmps22
    go_wp2_with (fail)
    refine (implPolyValid p A n c b o f _ H.out).mono ?_
    rintro e w1 ⟨rfl, rfl⟩
    rw [HV.out]
    go_wp2_with (fail)
    go_ret2
    rw [HR.out]; exact ⟨none, 0, rfl, World.ownsRow_nil _ _ _ _, Below.refl _ _⟩
  rcases hv' : polB p g
  · have HV := Lib.hid hv
    have HV' := Lib.hid hv'
    have HR := Lib.hid (show polTimes p f g = none by unfold polTimes; rw [if_neg (by simp [hv'])])
    clear hv hv'
    go_enter Try.func22, Try.ntmps22
    go_wp2_with (fail)
    refine (implPolyValid p A n c b o f _ H.out).mono ?_
    rintro e w1 ⟨rfl, rfl⟩
    rw [HV.out]
    go_wp2_with (fail)
    refine (implPolyValid p A' n' c' b' o' g _ H'.out).mono ?_
    rintro e w2 ⟨rfl, rfl⟩
    rw [HV'.out]
    go_wp2_with (fail)
    go_ret2
    rw [HR.out]; exact ⟨none, 0, rfl, World.ownsRow_nil _ _ _ _, Below.refl _ _⟩

  by_cases hN : 24 < tmsN f g
  · have HR := Lib.hid (show polTimes p f g = none by unfold polTimes; rw [if_neg (by omega)])
    have HV := Lib.hid hv
    have HV' := Lib.hid hv'
    obtain ⟨hp, hfl, hfv⟩ := serB_true (polB_ser hv)
    obtain ⟨_, hgl, hgv⟩ := serB_true (polB_ser hv')
    have HP := Lib.hid hp
    have HFV := Lib.hid hfv
    have HGV := Lib.hid hgv
    have hlen := tmsL_len p f g
    have HTR := Lib.hid (tms_trim hv hv')
    have hbig : tmsN f g ≤ 200 := by unfold tmsN; split <;> omega
    obtain ⟨T, hT⟩ : ∃ T, tmsL p f g = T := ⟨_, rfl⟩
    have HTQ := Lib.hid hT
    rw [hT] at hlen
    have h24 : decide ((24 : Int) < (T.length : Int)) = true := decide_eq_true (by omega)
    have hTb : T.length ≤ 200 := by omega
    clear hv hv' hp hfv hgv hT hlen
    go_enter Try.func22, Try.ntmps22
    go_wp2_with (fail)
    refine (implPolyValid p A n c b o f _ H.out).mono ?_
    rintro e w1 ⟨rfl, rfl⟩
    rw [HV.out]
    go_wp2_with (fail)
    refine (implPolyValid p A' n' c' b' o' g _ H'.out).mono ?_
    rintro e w2 ⟨rfl, rfl⟩
    rw [HV'.out]

    go_wp2_with (fail)
    refine (termsOf_any p A n c b o f _ H.out (by omega)).mono ?_
    rintro e w3 ⟨A3, c3, rfl, hO3, hB3⟩
    rw [hl] at hO3 ⊢
    obtain ⟨b3, hI3⟩ := OT.it hO3
    have HI3 := Lib.hid hI3
    clear hO3 hI3
    go_wp2_with (fail)
    refine (termsOf_any p A' n' c' b' o' g _ (H'.out.below hB3) (by omega)).mono ?_
    rintro e w4 ⟨A4, c4, rfl, hO4, hB4⟩
    rw [hl'] at hO4 ⊢
    obtain ⟨b4, hI4⟩ := OT.it hO4
    have HI4 := Lib.hid hI4
    have HI3' := Lib.hid (HI3.out.below hB4)
    have hB4' := below_more hB3 hB4
    clear hO4 hI4 hB3 hB4
    go_wp2_with (fail)
    refine (times_any p A3 n c3 b3 f A4 n' c4 b4 g _ HI3'.out HI4.out HFV.out HGV.out (by omega) (by omega)).mono ?_
    rw [HTR.out, HTQ.out]
    rintro e w5 ⟨A5, c5, rfl, hO5, hB5⟩
    obtain ⟨b5, hI5⟩ := OT.it hO5
    have HI5 := Lib.hid hI5
    have hB5' := below_more hB4' hB5
    clear hO5 hI5 hB4' hB5
    go_wp2_with (fail)
    go_ret2
    rw [HR.out]; exact ⟨none, 0, rfl, World.ownsRow_nil _ _ _ _, hB5'⟩

  · have HR := Lib.hid (show polTimes p f g = some (tmsL p f g) by unfold polTimes; rw [if_pos ⟨hv, hv', by omega⟩])
    have HV := Lib.hid hv
    have HV' := Lib.hid hv'
    obtain ⟨hp, hfl, hfv⟩ := serB_true (polB_ser hv)
    obtain ⟨_, hgl, hgv⟩ := serB_true (polB_ser hv')
    have HP := Lib.hid hp
    have HFV := Lib.hid hfv
    have HGV := Lib.hid hgv
    have hlen := tmsL_len p f g
    have HTR := Lib.hid (tms_trim hv hv')
    have hbig : tmsN f g ≤ 200 := by unfold tmsN; split <;> omega
    obtain ⟨T, hT⟩ : ∃ T, tmsL p f g = T := ⟨_, rfl⟩
    have HTQ := Lib.hid hT
    rw [hT] at hlen
    have h24 : decide ((24 : Int) < (T.length : Int)) = false := decide_eq_false (by omega)
    have hTb : T.length ≤ 200 := by omega
    clear hv hv' hp hfv hgv hT hlen
    go_enter Try.func22, Try.ntmps22
    go_wp2_with (fail)
    refine (implPolyValid p A n c b o f _ H.out).mono ?_
    rintro e w1 ⟨rfl, rfl⟩
    rw [HV.out]
    go_wp2_with (fail)
    refine (implPolyValid p A' n' c' b' o' g _ H'.out).mono ?_
    rintro e w2 ⟨rfl, rfl⟩
    rw [HV'.out]

    go_wp2_with (fail)
    refine (termsOf_any p A n c b o f _ H.out (by omega)).mono ?_
    rintro e w3 ⟨A3, c3, rfl, hO3, hB3⟩
    rw [hl] at hO3 ⊢
    obtain ⟨b3, hI3⟩ := OT.it hO3
    have HI3 := Lib.hid hI3
    clear hO3 hI3
    go_wp2_with (fail)
    refine (termsOf_any p A' n' c' b' o' g _ (H'.out.below hB3) (by omega)).mono ?_
    rintro e w4 ⟨A4, c4, rfl, hO4, hB4⟩
    rw [hl'] at hO4 ⊢
    obtain ⟨b4, hI4⟩ := OT.it hO4
    have HI4 := Lib.hid hI4
    have HI3' := Lib.hid (HI3.out.below hB4)
    have hB4' := below_more hB3 hB4
    clear hO4 hI4 hB3 hB4
    go_wp2_with (fail)
    refine (times_any p A3 n c3 b3 f A4 n' c4 b4 g _ HI3'.out HI4.out HFV.out HGV.out (by omega) (by omega)).mono ?_
    rw [HTR.out, HTQ.out]
    rintro e w5 ⟨A5, c5, rfl, hO5, hB5⟩
    obtain ⟨b5, hI5⟩ := OT.it hO5
    have HI5 := Lib.hid hI5
    have hB5' := below_more hB4' hB5
    clear hO5 hI5 hB4' hB5
    go_wp2_with (fail)
    refine (numbersOf_any p A5 _ c5 b5 T _ HI5.out (by omega)).mono ?_
    rintro e w6 ⟨A6, c6, rfl, hO6, hB6⟩
    have HO6 := Lib.hid hO6
    have hB6' := below_more hB5' hB6
    have hB5s := hB5'.size
    clear hO6 hB5' hB6
    go_wp2_with (fail)
    go_ret2
    rw [HR.out, HTQ.out]
    exact ⟨_, _, rfl, owns_mono HO6.out hB5s, hB6'⟩
end Go.Proofs.Ytmmadmfpbancmab
