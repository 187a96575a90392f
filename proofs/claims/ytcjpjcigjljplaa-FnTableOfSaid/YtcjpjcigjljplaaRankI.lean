/-
  The contract of the program's MatRank.
-/
import Derived.Test.YtcjpjcigjljplaaFormI
import Derived.Deep.RegionHeld3
namespace Go.Proofs.Ytcjpjcigjljplaa
open Go.RowKit
theorem below_undraw {B m : Nat} {w w' : World} (h : Below B (w.drewN m) w') : Below B w w' := ⟨h.os, h.tape, h.output, h.size, h.block⟩
theorem OM.addr {w : World} {B n c : Nat} {A : Option Addr} {M : List (List Int)} {vs : List Value} (h : OM w B A n c M vs) (hn : 1 ≤ n) : ∃ g, A = Option.some ⟨g, 0, Option.none⟩ := by
  rcases h.adr with ⟨_, h0, _⟩ | ⟨g, h1, _⟩
  · omega
  · exact ⟨g, h1⟩
def IntBelow (x : Int) (w : World) (e : Ending) (w' : World) : Prop := e = .returned (.int .i64 x) ∧ Below w.heap.size w w'
set_option maxHeartbeats 400000 in
theorem implMatRank (p : Int) (A : Option Addr) (n c b o : Nat) (M : List (List Int)) (w : World) (h : RA w A n b o M) :
    Calls Try.prog 55 #[.int .i64 p, .slice A n c] w (IntBelow (rankR p M) w) := by
  have hbig := h.big
  have H := Lib.hid h
  clear h
  rcases hv : matB p M
  · have HV := Lib.hid hv
    have HR := Lib.hid (show rankR p M = -1 by unfold rankR; rw [if_neg (by simp [hv])])
    clear hv
    go_enter Try.func55, Try.ntmps55
    go_wp2_with (fail)
    refine (implMatValid p A n c b o M _ H.out).mono ?_
    rintro e w1 ⟨rfl, rfl⟩
    rw [HV.out]
    go_wp2_with (fail)
    go_ret
    exact ⟨by rw [HR.out]; rfl, Below.refl _ _⟩
  · obtain ⟨hn1, hn8, hl1, hl8, hrows⟩ := matB_true hv
    have hL := H.out.len
    obtain ⟨l0, hl0⟩ : ∃ l0, (M.headD []).length = l0 := ⟨_, rfl⟩
    have hR : rankR p M = ((elim p M l0).2.length : Int) := by unfold rankR; rw [if_pos hv, hl0]
    have hvm := VM_of_mat hv
    have hp := prime_of_mat hv
    rw [hl0] at hl1 hl8 hrows hvm
    rw [hL] at hn1 hn8
    have HV := Lib.hid hv
    have HR := Lib.hid hR
    have HVM := Lib.hid hvm
    have HP := Lib.hid hp
    have HRW := Lib.hid (show ∀ row ∈ M, row.length = l0 from fun row hr => (hrows row hr).1)
    obtain ⟨row0, A0, c0, b0, o0, hm0, hc0, hI0⟩ := H.out.row 0 (by omega)
    have hr0 := HRW.out row0 (List.mem_of_getElem? hm0)
    rw [hr0, Nat.add_zero] at hc0
    obtain rfl := H.out.adr (by omega)
    clear hv hrows hl0 hR hvm hp hL hm0 hI0 hr0
    go_enter Try.func55, Try.ntmps55
    go_wp2_with (fail)
    refine (implMatValid p _ n c b o M _ H.out).mono ?_
    rintro e w1 ⟨rfl, rfl⟩
    rw [HV.out]
    go_wp2_with (fail)
    have hcd : (World.drew w).cell? ⟨b, o, none⟩ = some (.slice A0 l0 c0) := hc0
    have h0n : 0 < n := by omega
    go_region_held3 (fun w' => w'.cell? ⟨b, o, none⟩ = some (.slice A0 l0 c0)) (first | exact hcd | assumption) (first | (go_at_call 78; refine (copyRows_any _ n c b o l0 M _ (H.out.drewN ⟨1, rfl⟩) hn8 hl1 (by omega) HRW.out).mono ?_; rintro e w1 ⟨A1, c1, vs, rfl, hO, hB⟩; have hc1 := (keep_of_below hB).cell (show (World.drew w).cell? ⟨b, o, none⟩ = _ from hc0) (fun h => h); have HO := Lib.hid hO; clear hO) | (go_at_call 77; obtain ⟨g, hg⟩ := HO.out.addr hn1; subst hg; refine (reduceRows_any p _ g n c1 l0 l0 M vs _ HO.out HP.out HVM.out (Nat.le_refl _) (by omega) hn1 (by omega)).mono ?_; rintro e w2 ⟨A2, c2, vs2, rfl, hO2, hI2, hB2⟩; have hc2 := (keep_of_below (hB.trans hB2)).cell (show (World.drew w).cell? ⟨b, o, none⟩ = _ from hc0) (fun h => h); have HO2 := Lib.hid hO2; clear hO2 hI2))
    all_goals
      go_wp2_with (fail)
      go_ret
      exact ⟨by rw [HR.out]; rfl, below_undraw (hB.trans hB2)⟩
end Go.Proofs.Ytcjpjcigjljplaa
