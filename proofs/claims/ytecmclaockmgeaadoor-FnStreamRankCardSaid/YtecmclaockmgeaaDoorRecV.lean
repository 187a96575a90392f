/-
  The contracts of RecValid.
-/
import Derived.Test.YtecmclaockmgeaaDoorStm
import Derived.Test.YtecmclaockmgeaaDoorRc
import Derived.Test.YtecmclaockmgeaaDoorVal
namespace Go.Proofs.YtecmclaockmgeaaDoor
open Go.RowKit
theorem rec_serB {p : Int} {T F : List Int} : recB p T F = (serB p T && (serB p F && (decide (T.length = F.length) && decide (T.length ≤ 6)))) := by
  rw [Bool.eq_iff_iff]
  constructor
  · intro h
    obtain ⟨hp, h6, hl, hT, hF⟩ := recB_true h
    simp only [Bool.and_eq_true, decide_eq_true_eq]
    exact ⟨serB_mk hp (by omega) hT, serB_mk hp (by omega) hF, hl.symm, h6⟩
  · intro h
    simp only [Bool.and_eq_true, decide_eq_true_eq] at h
    obtain ⟨h1, h2, h3, h4⟩ := h
    exact recB_mk (serB_true h1).1 h4 h3.symm (serB_true h1).2.2 (serB_true h2).2.2
theorem implRecValid (v : Value) (p : Int) (T F : List Int) (w : World) (h : RV w v p T F) :
    Calls Tryd.prog 7 #[v] w fun e w' => e = .returned (.bool (recB p T F)) ∧ Below w.heap.size w w' := by
  obtain ⟨A, n, c, b, o, A', n', c', b', o', rfl, g1, g2⟩ := h
  have hB0 : Below w.heap.size w (w.alloc (.cells #[.int .i64 p, .slice A n c, .slice A' n' c'] 25)) := (Below.refl _ w).alloc (Nat.le_refl _) _
  have hbig := g1.big
  have hbig' := g2.big
  have HL := Lib.hid g1.len
  have HL' := Lib.hid g2.len
  have H := Lib.hid (g1.below hB0)
  have H' := Lib.hid (g2.below hB0)
  have HB0 := Lib.hid hB0
  clear g1 g2 hB0
  rcases hp : primeB p
  · have HP := Lib.hid hp
    have HF := Lib.hid (show recB p T F = false by unfold recB; rw [hp]; rfl)
    clear hp
    go_enter Tryd.func7, Tryd.ntmps7
    go_wp2_with (go_at_call 18; refine (implPrimeOk _ _).mono ?_; rintro e w' ⟨rfl, rfl⟩; rw [HP.out])
    go_ret
    exact ⟨ret_bool HF.out.symm, HB0.out⟩
  have HP := Lib.hid hp
  by_cases h6 : n ≤ 6
  case neg =>
    have HF := Lib.hid (show recB p T F = false by unfold recB; rw [HL.out]; simp [h6])
    clear hp
    go_enter Tryd.func7, Tryd.ntmps7
    go_wp2_with (go_at_call 18; refine (implPrimeOk _ _).mono ?_; rintro e w' ⟨rfl, rfl⟩; rw [HP.out])
    go_ret
    exact ⟨ret_bool HF.out.symm, HB0.out⟩
  by_cases hl : n' = n
  case neg =>
    have HF := Lib.hid (show recB p T F = false by unfold recB; rw [HL.out, HL'.out]; simp [hl])
    have hq : ((n' : Int) == (n : Int)) = false := by simpa using (by omega : ¬ (n' : Int) = (n : Int))
    clear hp
    go_enter Tryd.func7, Tryd.ntmps7
    go_wp2_with (go_at_call 18; refine (implPrimeOk _ _).mono ?_; rintro e w' ⟨rfl, rfl⟩; rw [HP.out])
    go_ret
    exact ⟨ret_bool HF.out.symm, HB0.out⟩
  subst hl
  have hq : ((n' : Int) == (n' : Int)) = true := by simp
  have hE : recB p T F = (rowB p T && rowB p F) := by unfold recB; rw [hp, HL.out, HL'.out]; simp [h6]
  rcases hT : rowB p T
  · have HT := Lib.hid hT
    have HF := Lib.hid (show recB p T F = false by rw [hE, hT]; rfl)
    clear hp hT hE
    go_enter Tryd.func7, Tryd.ntmps7
    go_wp2_with (first | (go_at_call 18; refine (implPrimeOk _ _).mono ?_; rintro e w' ⟨rfl, rfl⟩; rw [HP.out]) | (go_at_call 19; with_reducible refine (allValid_any p A n' c b o T _ H.out).mono ?_; rintro e w' ⟨rfl, rfl⟩; rw [HT.out]))
    go_ret
    exact ⟨ret_bool HF.out.symm, HB0.out⟩
  have HT := Lib.hid hT
  rcases hF : rowB p F
  · have HTF := Lib.hid hF
    have HF := Lib.hid (show recB p T F = false by rw [hE, hF]; simp)
    clear hp hT hE hF
    go_enter Tryd.func7, Tryd.ntmps7
    go_wp2_with (first | (go_at_call 18; refine (implPrimeOk _ _).mono ?_; rintro e w' ⟨rfl, rfl⟩; rw [HP.out]) | (go_at_call 19; with_reducible refine (allValid_any p A n' c b o T _ H.out).mono ?_; rintro e w' ⟨rfl, rfl⟩; rw [HT.out]) | (go_at_call 19; with_reducible refine (allValid_any p A' n' c' b' o' F _ H'.out).mono ?_; rintro e w' ⟨rfl, rfl⟩; rw [HTF.out]))
    go_ret
    exact ⟨ret_bool HF.out.symm, HB0.out⟩
  · have HTF := Lib.hid hF
    have HF := Lib.hid (show recB p T F = true by rw [hE, hT, hF]; rfl)
    clear hp hT hE hF
    go_enter Tryd.func7, Tryd.ntmps7
    go_wp2_with (first | (go_at_call 18; refine (implPrimeOk _ _).mono ?_; rintro e w' ⟨rfl, rfl⟩; rw [HP.out]) | (go_at_call 19; with_reducible refine (allValid_any p A n' c b o T _ H.out).mono ?_; rintro e w' ⟨rfl, rfl⟩; rw [HT.out]) | (go_at_call 19; with_reducible refine (allValid_any p A' n' c' b' o' F _ H'.out).mono ?_; rintro e w' ⟨rfl, rfl⟩; rw [HTF.out]))
    go_ret
    exact ⟨ret_bool HF.out.symm, HB0.out⟩
theorem specRecValid (v : Value) (p : Int) (T F : List Int) (w : World) (h : RV w v p T F) :
    Calls Tryd.prog 14 #[v] w fun e w' => e = .returned (.bool (recB p T F)) ∧ Below w.heap.size w w' := by
  obtain ⟨A, n, c, b, o, A', n', c', b', o', rfl, g1, g2⟩ := h
  have hB0 : Below w.heap.size w (w.alloc (.cells #[.int .i64 p, .slice A n c, .slice A' n' c'] 25)) := (Below.refl _ w).alloc (Nat.le_refl _) _
  have hbig := g1.big
  have hbig' := g2.big
  have HL := Lib.hid g1.len
  have HL' := Lib.hid g2.len
  have H := Lib.hid (g1.below hB0)
  have H' := Lib.hid (g2.below hB0)
  have HB0 := Lib.hid hB0
  clear g1 g2 hB0
  have hE := rec_serB (p := p) (T := T) (F := F)
  rw [HL.out, HL'.out] at hE
  rcases hT : serB p T
  · have HT := Lib.hid hT
    have HF := Lib.hid (show recB p T F = false by rw [hE, hT]; rfl)
    clear hT hE
    go_enter Tryd.func14, Tryd.ntmps14
    go_wp2_with (go_at_call 31; with_reducible refine (specSeriesValid p A n c b o T _ H.out).mono ?_; rintro e w' ⟨rfl, rfl⟩; rw [HT.out])
    go_ret
    exact ⟨ret_bool HF.out.symm, HB0.out⟩
  have HT := Lib.hid hT
  rcases hF : serB p F
  · have HTF := Lib.hid hF
    have HF := Lib.hid (show recB p T F = false by rw [hE, hF]; simp)
    clear hT hE hF
    go_enter Tryd.func14, Tryd.ntmps14
    go_wp2_with (first | (go_at_call 31; with_reducible refine (specSeriesValid p A n c b o T _ H.out).mono ?_; rintro e w' ⟨rfl, rfl⟩; rw [HT.out]) | (go_at_call 31; with_reducible refine (specSeriesValid p A' n' c' b' o' F _ H'.out).mono ?_; rintro e w' ⟨rfl, rfl⟩; rw [HTF.out]))
    go_ret
    exact ⟨ret_bool HF.out.symm, HB0.out⟩
  have HTF := Lib.hid hF
  by_cases hl : n = n'
  case neg =>
    have HF := Lib.hid (show recB p T F = false by rw [hE]; simp [hl])
    have hq : ((n : Int) == (n' : Int)) = false := by simpa using (by omega : ¬ (n : Int) = (n' : Int))
    clear hT hE hF
    go_enter Tryd.func14, Tryd.ntmps14
    go_wp2_with (first | (go_at_call 31; with_reducible refine (specSeriesValid p A n c b o T _ H.out).mono ?_; rintro e w' ⟨rfl, rfl⟩; rw [HT.out]) | (go_at_call 31; with_reducible refine (specSeriesValid p A' n' c' b' o' F _ H'.out).mono ?_; rintro e w' ⟨rfl, rfl⟩; rw [HTF.out]))
    go_ret
    exact ⟨ret_bool HF.out.symm, HB0.out⟩
  subst hl
  have hq : ((n : Int) == (n : Int)) = true := by simp
  by_cases h6 : n ≤ 6
  · have HF := Lib.hid (show recB p T F = true by rw [hE, hT, hF]; simp [h6])
    clear hT hE hF
    go_enter Tryd.func14, Tryd.ntmps14
    go_wp2_with (first | (go_at_call 31; with_reducible refine (specSeriesValid p A n c b o T _ H.out).mono ?_; rintro e w' ⟨rfl, rfl⟩; rw [HT.out]) | (go_at_call 31; with_reducible refine (specSeriesValid p A' n c' b' o' F _ H'.out).mono ?_; rintro e w' ⟨rfl, rfl⟩; rw [HTF.out]))
    go_ret
    exact ⟨ret_bool (by rw [HF.out]; exact decide_eq_true (by omega)), HB0.out⟩
  · have HF := Lib.hid (show recB p T F = false by rw [hE]; simp [h6])
    clear hT hE hF
    go_enter Tryd.func14, Tryd.ntmps14
    go_wp2_with (first | (go_at_call 31; with_reducible refine (specSeriesValid p A n c b o T _ H.out).mono ?_; rintro e w' ⟨rfl, rfl⟩; rw [HT.out]) | (go_at_call 31; with_reducible refine (specSeriesValid p A' n c' b' o' F _ H'.out).mono ?_; rintro e w' ⟨rfl, rfl⟩; rw [HTF.out]))
    go_ret
    exact ⟨ret_bool (by rw [HF.out]; exact decide_eq_false (by omega)), HB0.out⟩
end Go.Proofs.YtecmclaockmgeaaDoor
