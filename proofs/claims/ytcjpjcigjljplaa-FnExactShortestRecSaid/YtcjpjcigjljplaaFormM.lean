/-
  The contracts of the model's MatForm and MatRank.
-/
import Derived.Test.YtcjpjcigjljplaaFormS
namespace Go.Proofs.Ytcjpjcigjljplaa
open Go.RowKit
theorem below_head {B m : Nat} {w w1 w' : World} (hm : w1 = w.drewN m) (h : Below B w1 w') : Below B w w' := by subst hm; exact below_undraw h
theorem RA.seen {w : World} {A : Option Addr} {n b o : Nat} {M : List (List Int)} (h : RA w A n b o M) (m : Nat) : RA (w.drewN m) A n b o M := h.drewN ⟨m, rfl⟩
theorem specMatRank (p : Int) (A : Option Addr) (n c b o : Nat) (M : List (List Int)) (w : World) (h : RA w A n b o M) :
    Calls Try.prog 52 #[.int .i64 p, .slice A n c] w (IntBelow (rankR p M) w) := by
  have hbig := h.big
  have H := Lib.hid h
  clear h
  rcases hv : matB p M
  · have HV := Lib.hid hv
    have HR := Lib.hid (show rankR p M = -1 by unfold rankR; rw [if_neg (by simp [hv])])
    clear hv
    go_enter Try.func52, Try.ntmps52
    go_wp2_with (fail)
    refine (specMatValid p A n c b o M _ H.out).mono ?_
    rintro e w1 ⟨rfl, m, rfl⟩
    rw [HV.out]
    go_wp2_with (fail)
    go_ret
    exact ⟨by rw [HR.out]; rfl, below_undraw (Below.refl _ _)⟩
  · obtain ⟨hn1, hn8, hl1, hl8, hrows⟩ := matB_true hv
    have hL := H.out.len
    obtain ⟨l0, hl0⟩ : ∃ l0, (M.headD []).length = l0 := ⟨_, rfl⟩
    have hR : rankR p M = ((elim p M l0).2.length : Int) := by unfold rankR; rw [if_pos hv, hl0]
    have hvm := VM_of_mat hv
    have hp := prime_of_mat hv
    rw [hl0] at hl1 hl8 hrows hvm
    rw [hL] at hn1 hn8
    have hinv := elim_inv hp hvm l0
    have HV := Lib.hid hv
    have HR := Lib.hid hR
    have HVM := Lib.hid hvm
    have HP := Lib.hid hp
    have hlen := hinv.2.2.1
    clear hv hrows hl0 hR hvm hp hinv
    go_enter Try.func52, Try.ntmps52
    go_wp2_with (fail)
    refine (specMatValid p A n c b o M _ H.out).mono ?_
    rintro e w1 ⟨rfl, m, rfl⟩
    rw [HV.out]
    go_wp2_with (fail)
    refine (specForm p A n c b o l0 M _ (H.out.seen m) HP.out HVM.out hn1 (by omega) hl1 (by omega)).mono ?_
    rintro e w2 ⟨A2, c2, vs2, A3, c3, rfl, hO, hI, hB⟩
    have HB := Lib.hid (below_undraw hB)
    clear hO hI hB
    go_wp2_with (fail)
    go_ret
    exact ⟨by rw [HR.out]; rfl, HB.out⟩
theorem formR_tot (p : Int) (M : List (List Int)) : tot (formR p M) ≤ 64 := by
  rcases h : matB p M
  · rw [formR_no h]; simp [tot]
  · rw [formR_yes h]
    obtain ⟨h1, h2, h3, h4, _⟩ := matB_true h
    obtain ⟨g1, g2, _, _⟩ := elim_inv (prime_of_mat h) (VM_of_mat h) (M.headD []).length
    have := tot_rows (elim p M (M.headD []).length).1 8 (fun row hr => by rw [(g2 row hr).1]; omega)
    omega
end Go.Proofs.Ytcjpjcigjljplaa
