/-
  The contracts of SeriesBack, of the program and of its model.
-/
import Derived.Test.YtllakclbgmingaaDoorInv
import Derived.Test.YtllakclbgmingaaDoorPTimes
namespace Go.Proofs.YtllakclbgmingaaDoor
open Go.RowKit
def serBk (p : Int) (s : List Int) : List Int := if serB p s = true ∧ s.length ≠ 0 ∧ co s 0 ≠ 0 then backL p s else []
theorem backL_len (p : Int) (s : List Int) : (backL p s).length = s.length := bkL_len _ _ _ _
theorem serBk_bd (p : Int) (s : List Int) : (serBk p s).length ≤ 1048576 := by
  unfold serBk
  split
  · rename_i h
    have := (serB_true h.1).2.1
    rw [backL_len]; omega
  · simp
set_option maxHeartbeats 1000000 in
theorem implSeriesBack (p : Int) (A : Option Addr) (n c b o : Nat) (s : List Int) (w : World) (h : IA w A n b o s) :
    Calls Tryd.prog 35 #[.int .i64 p, .slice A n c] w (MadeI (serBk p s).length (serBk p s) w) := by
  have hl := h.len
  have H := Lib.hid h
  rcases hv : serB p s
  · have HV := Lib.hid hv
    have HR := Lib.hid (show serBk p s = [] by unfold serBk; rw [if_neg (by simp [hv])])
    clear hv h
    go_enter Tryd.func35, Tryd.ntmps35
    go_wp2_with (fail)
    refine (implSeriesValid p A n c b o s _ H.out).mono ?_
    rintro e w1 ⟨rfl, rfl⟩
    rw [HV.out]
    go_wp2_with (fail)
    go_ret
    rw [HR.out]; exact ⟨none, 0, rfl, World.ownsRow_nil _ _ _ _, Below.refl _ _⟩
  by_cases hn : n = 0
  · subst hn
    have HV := Lib.hid hv
    have HR := Lib.hid (show serBk p s = [] by unfold serBk; rw [if_neg (by omega)])
    clear hv h
    go_enter Tryd.func35, Tryd.ntmps35
    go_wp2_with (fail)
    refine (implSeriesValid p A 0 c b o s _ H.out).mono ?_
    rintro e w1 ⟨rfl, rfl⟩
    rw [HV.out]
    go_wp2_with (fail)
    go_ret
    rw [HR.out]; exact ⟨none, 0, rfl, World.ownsRow_nil _ _ _ _, Below.refl _ _⟩
  obtain rfl := h.adr (by omega)
  obtain ⟨x, hx, hxc⟩ := h.cell 0 (by omega)
  have hxc' : w.cell? ⟨b, o, none⟩ = some (.int .i64 x) := hxc
  have hc0 : co s 0 = x := getD_at hx
  have hnz : ((n : Int) == 0) = false := by simpa using hn
  have hnp : (0 : Int) < (n : Int) := by omega
  obtain ⟨hp, hfl, hfv⟩ := serB_true hv
  by_cases hx0 : x = 0
  · subst hx0
    have HV := Lib.hid hv
    have HR := Lib.hid (show serBk p s = [] by unfold serBk; rw [if_neg (by simp [hc0])])
    clear hv h hx hc0 hp hfv
    go_enter Tryd.func35, Tryd.ntmps35
    go_wp2_with (fail)
    refine (implSeriesValid p _ n c b o s _ H.out).mono ?_
    rintro e w1 ⟨rfl, rfl⟩
    rw [HV.out]
    go_wp2_with (fail)
    go_ret
    rw [HR.out]; exact ⟨none, 0, rfl, World.ownsRow_nil _ _ _ _, Below.refl _ _⟩
  · have hxz : (x == 0) = false := by simpa using hx0
    have HV := Lib.hid hv
    have HR := Lib.hid (show serBk p s = backL p s by unfold serBk; rw [if_pos ⟨hv, by omega, by rw [hc0]; exact hx0⟩])
    have HP := Lib.hid hp
    have HFV := Lib.hid hfv
    have HC0 := Lib.hid (show co s 0 ≠ 0 by rw [hc0]; exact hx0)
    have hbl := backL_len p s
    clear hv h hx hc0 hp hfv
    go_enter Tryd.func35, Tryd.ntmps35
    go_wp2_with (fail)
    refine (implSeriesValid p _ n c b o s _ H.out).mono ?_
    rintro e w1 ⟨rfl, rfl⟩
    rw [HV.out]
    go_wp2_with (fail)
    refine (termsOf_any p _ n c b o s _ H.out (by omega)).mono ?_
    rintro e w3 ⟨A3, c3, rfl, hO3, hB3⟩
    rw [hl] at hO3 ⊢
    obtain ⟨b3, hI3⟩ := OT.it hO3
    have HI3 := Lib.hid hI3
    clear hO3 hI3
    go_wp2_with (fail)
    refine (inverse_any p A3 n c3 b3 s _ HI3.out HP.out HFV.out (by omega) (by omega) HC0.out).mono ?_
    rintro e w5 ⟨A5, c5, rfl, hO5, hB5⟩
    obtain ⟨T, hT⟩ : ∃ T, backL p s = T := ⟨_, rfl⟩
    rw [hT] at hbl hO5 ⊢
    have HT := Lib.hid hT
    have htb : T.length ≤ 24 := by omega
    obtain ⟨b5, hI5⟩ := OT.it hO5
    have HI5 := Lib.hid hI5
    have hB5' := below_more hB3 hB5
    clear hO5 hI5 hB3 hB5 hT hbl
    go_wp2_with (fail)
    refine (numbersOf_any p A5 _ c5 b5 T _ HI5.out (by omega)).mono ?_
    rintro e w6 ⟨A6, c6, rfl, hO6, hB6⟩
    have HO6 := Lib.hid hO6
    have hB6' := below_more hB5' hB6
    have hB5s := hB5'.size
    clear hO6 hB5' hB6
    go_wp2_with (fail)
    go_ret
    rw [HR.out, HT.out]
    exact ⟨_, _, rfl, owns_mono HO6.out hB5s, hB6'⟩
end Go.Proofs.YtllakclbgmingaaDoor
