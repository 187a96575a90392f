/-
  The contracts of the program's MatForm and MatRank.
-/
import Derived.Test.YtpelokdgjdljfabCpy
namespace Go.Proofs.Ytpelokdgjdljfab
open Go.RowKit
def formR (p : Int) (M : List (List Int)) : List (List Int) := if matB p M = true then (elim p M (M.headD []).length).1 else []
def rankR (p : Int) (M : List (List Int)) : Int := if matB p M = true then ((elim p M (M.headD []).length).2.length : Int) else -1
theorem VM_of_mat {p : Int} {M : List (List Int)} (h : matB p M = true) : VM p (M.headD []).length M := (matB_true h).2.2.2.2
theorem formR_yes {p : Int} {M : List (List Int)} (h : matB p M = true) : formR p M = (elim p M (M.headD []).length).1 := by unfold formR; rw [if_pos h]
theorem formR_no {p : Int} {M : List (List Int)} (h : matB p M = false) : formR p M = [] := by unfold formR; rw [if_neg (by simp [h])]
theorem OM.mono {w : World} {B B' n c : Nat} {A : Option Addr} {M : List (List Int)} {vs : List Value} (h : OM w B A n c M vs) (hB : B' ≤ B) : OM w B' A n c M vs :=
  ⟨owns_mono h.out hB, h.len, fun r row hr => let ⟨a, b, g1, g2⟩ := h.row r row hr; ⟨a, b, g1, owns_mono g2 hB⟩, h.apart⟩
theorem implMatForm (p : Int) (A : Option Addr) (n c b o : Nat) (M : List (List Int)) (w : World) (h : RA w A n b o M) :
    Calls Try.prog 32 #[.int .i64 p, .slice A n c] w (MadeM (formR p M).length (formR p M) w) := by
  have hbig := h.big
  have H := Lib.hid h
  clear h
  rcases hv : matB p M
  · have HV := Lib.hid hv
    have HR := Lib.hid (formR_no hv)
    clear hv
    go_enter Try.func32, Try.ntmps32
    go_wp2_with (fail)
    refine (implMatValid p A n c b o M _ H.out).mono ?_
    rintro e w1 ⟨rfl, rfl⟩
    rw [HV.out]
    go_wp2_with (fail)
    go_ret
    exact ⟨none, 0, [], by rw [HR.out]; rfl, by rw [HR.out]; exact OM.none _ _, Below.refl _ _⟩
  · obtain ⟨hn1, hn8, hl1, hl8, hrows⟩ := matB_true hv
    have hL := H.out.len
    obtain ⟨l0, hl0⟩ : ∃ l0, (M.headD []).length = l0 := ⟨_, rfl⟩
    have hR := formR_yes hv
    have hvm := VM_of_mat hv
    have hp := prime_of_mat hv
    rw [hl0] at hl1 hl8 hrows hR hvm
    rw [hL] at hn1 hn8
    have hinv := elim_inv hp hvm l0
    have HV := Lib.hid hv
    have HR := Lib.hid hR
    have HVM := Lib.hid hvm
    have HP := Lib.hid hp
    have HRW := Lib.hid (show ∀ row ∈ M, row.length = l0 from fun row hr => (hrows row hr).1)
    have HL := Lib.hid (show (elim p M l0).1.length = n by rw [hinv.1, hL])
    clear hv hrows hl0 hR hvm hp hinv hL
    go_enter Try.func32, Try.ntmps32
    go_wp2_with (fail)
    refine (implMatValid p A n c b o M _ H.out).mono ?_
    rintro e w1 ⟨rfl, rfl⟩
    rw [HV.out]
    go_wp2_with (fail)
    refine (copyRows_any A n c b o l0 M _ H.out hn8 hl1 (by omega) HRW.out).mono ?_
    rintro e w1 ⟨A1, c1, vs, rfl, hO, hB⟩
    obtain ⟨g, hg⟩ : ∃ g, A1 = some ⟨g, 0, none⟩ := by
      rcases hO.adr with ⟨_, h0, _⟩ | ⟨g, h1, _⟩
      · omega
      · exact ⟨g, h1⟩
    subst hg
    obtain ⟨row0, A0, c0, hm0, hv0, hc0, hI0, hf0⟩ := (OMF.mk hO (hO.out.lt g rfl).2 hO.foot).cell (r := 0) (by omega)
    have hr0 := HRW.out row0 (List.mem_of_getElem? hm0)
    rw [hr0] at hc0
    have HO := Lib.hid hO
    clear hm0 hv0 hI0 hr0 hO
    go_wp2_with (fail)
    refine (reduceRows_any p w.heap.size g n c1 l0 l0 M vs _ HO.out HP.out HVM.out (Nat.le_refl _) (by omega) hn1 hn8).mono ?_
    rintro e w2 ⟨A2, c2, vs2, rfl, hO2, hI2, hB2⟩
    have HO2 := Lib.hid hO2
    clear hO2 hI2
    go_wp2_with (fail)
    go_ret
    exact ⟨_, c1, vs2, by rw [HR.out, HL.out]; rfl, by rw [HR.out, HL.out]; exact HO2.out, hB.trans hB2⟩
end Go.Proofs.Ytpelokdgjdljfab
