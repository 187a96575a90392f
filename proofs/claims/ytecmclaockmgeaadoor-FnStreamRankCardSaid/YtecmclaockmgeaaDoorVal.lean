/-
  The contracts of the program's SeriesValid and PolyValid.
-/
import Derived.Test.YtecmclaockmgeaaDoorSer
namespace Go.Proofs.YtecmclaockmgeaaDoor
open Go.RowKit
theorem implSeriesValid (p : Int) (A : Option Addr) (n c b o : Nat) (xs : List Int) (w : World) (h : IA w A n b o xs) :
    Calls Tryd.prog 50 #[.int .i64 p, .slice A n c] w fun e w' => e = .returned (.bool (serB p xs)) ∧ w = w' := by
  have hbig := h.big
  have hlen := h.len
  have H := Lib.hid h
  clear h
  rcases hp : primeB p
  · have HP := Lib.hid hp
    have HF := Lib.hid (show serB p xs = false by unfold serB; rw [hp]; simp)
    clear hp
    go_enter Tryd.func50, Tryd.ntmps50
    go_wp2_with (go_at_call 18; refine (implPrimeOk _ _).mono ?_; rintro e w' ⟨rfl, rfl⟩; rw [HP.out])
    go_ret
    exact ⟨ret_bool HF.out.symm, rfl⟩
  · by_cases hl : n ≤ 24
    · have HP := Lib.hid hp
      have HF := Lib.hid (show serB p xs = rowB p xs by unfold serB; rw [hp]; simp; intro _; omega)
      clear hp
      go_enter Tryd.func50, Tryd.ntmps50
      go_wp2_with (first | (go_at_call 18; refine (implPrimeOk _ _).mono ?_; rintro e w' ⟨rfl, rfl⟩; rw [HP.out]) | (go_at_call 19; refine (allValid_any p A n c b o xs _ H.out).mono ?_; rintro e w' ⟨rfl, rfl⟩))
      go_ret
      exact ⟨ret_bool HF.out.symm, rfl⟩
    · have HP := Lib.hid hp
      have HF := Lib.hid (show serB p xs = false by unfold serB; rw [hp]; simp; intro _; omega)
      clear hp
      go_enter Tryd.func50, Tryd.ntmps50
      go_wp2_with (go_at_call 18; refine (implPrimeOk _ _).mono ?_; rintro e w' ⟨rfl, rfl⟩; rw [HP.out])
      go_ret
      exact ⟨ret_bool HF.out.symm, rfl⟩
theorem implPolyValid (p : Int) (A : Option Addr) (n c b o : Nat) (xs : List Int) (w : World) (h : IA w A n b o xs) :
    Calls Tryd.prog 58 #[.int .i64 p, .slice A n c] w fun e w' => e = .returned (.bool (polB p xs)) ∧ w = w' := by
  have hbig := h.big
  have hlen := h.len
  have H := Lib.hid h
  clear h
  rcases hs : serB p xs
  · have HS := Lib.hid hs
    have HF := Lib.hid (show polB p xs = false by unfold polB; rw [hs]; rfl)
    clear hs
    go_enter Tryd.func58, Tryd.ntmps58
    go_wp2_with (fail)
    refine (implSeriesValid p A n c b o xs _ H.out).mono ?_
    rintro e w' ⟨rfl, rfl⟩
    rw [HS.out]
    go_wp2_with (fail)
    go_ret
    exact ⟨ret_bool HF.out.symm, rfl⟩
  · have HS := Lib.hid hs
    by_cases hn : n = 0
    · subst hn
      have HF := Lib.hid (show polB p xs = true by unfold polB; rw [hs, hlen]; rfl)
      clear hs
      go_enter Tryd.func58, Tryd.ntmps58
      go_wp2_with (fail)
      refine (implSeriesValid p A 0 c b o xs _ H.out).mono ?_
      rintro e w' ⟨rfl, rfl⟩
      rw [HS.out]
      go_wp2_with (fail)
      go_ret
      exact ⟨ret_bool HF.out.symm, rfl⟩
    · obtain ⟨x, hx, hxc⟩ := H.out.cell (n - 1) (by omega)
      have HF := Lib.hid (show polB p xs = (x != 0) by
        unfold polB
        rw [hs, hlen, List.getD_eq_getElem?_getD, hx]
        simp [hn])
      have h0 : ((n : Int) == 0) = false := by simpa using hn
      obtain rfl := H.out.adr (by omega)
      clear hs hx
      go_enter Tryd.func58, Tryd.ntmps58
      go_wp2_with (fail)
      refine (implSeriesValid p _ n c b o xs _ H.out).mono ?_
      rintro e w' ⟨rfl, rfl⟩
      rw [HS.out]
      go_wp2_with (fail)
      go_ret
      exact ⟨ret_bool HF.out.symm, rfl⟩
theorem below_eq {w w' : World} (h : w = w') : Below w.heap.size w w' := h ▸ Below.refl _ _
theorem specSeriesValidB (p : Int) (A : Option Addr) (n c b o : Nat) (xs : List Int) (w : World) (h : IA w A n b o xs) :
    Calls Tryd.prog 31 #[.int .i64 p, .slice A n c] w fun e w' => e = .returned (.bool (serB p xs)) ∧ Below w.heap.size w w' := by
  refine (specSeriesValid p A n c b o xs w h).mono ?_
  rintro e w' ⟨rfl, h⟩; exact ⟨rfl, below_eq h⟩
theorem implSeriesValidB (p : Int) (A : Option Addr) (n c b o : Nat) (xs : List Int) (w : World) (h : IA w A n b o xs) :
    Calls Tryd.prog 50 #[.int .i64 p, .slice A n c] w fun e w' => e = .returned (.bool (serB p xs)) ∧ Below w.heap.size w w' := by
  refine (implSeriesValid p A n c b o xs w h).mono ?_
  rintro e w' ⟨rfl, h⟩; exact ⟨rfl, below_eq h⟩
theorem implPolyValidB (p : Int) (A : Option Addr) (n c b o : Nat) (xs : List Int) (w : World) (h : IA w A n b o xs) :
    Calls Tryd.prog 58 #[.int .i64 p, .slice A n c] w fun e w' => e = .returned (.bool (polB p xs)) ∧ Below w.heap.size w w' := by
  refine (implPolyValid p A n c b o xs w h).mono ?_
  rintro e w' ⟨rfl, h⟩; exact ⟨rfl, below_eq h⟩
end Go.Proofs.YtecmclaockmgeaaDoor
