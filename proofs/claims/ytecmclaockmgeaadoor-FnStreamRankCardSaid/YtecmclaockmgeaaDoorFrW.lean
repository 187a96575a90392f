/-
  The contracts of FracValid.
-/
import Derived.Test.YtecmclaockmgeaaDoorFrV
namespace Go.Proofs.YtecmclaockmgeaaDoor
open Go.RowKit
set_option maxRecDepth 100000 in
set_option maxHeartbeats 1000000 in
theorem implFracValid (v : Value) (p : Int) (U L : List Int) (w : World) (h : RV w v p U L) (ge : Addr) (hge : GE w ge) :
    Calls Tryd.prog 36 #[v] w fun e w' => e = .returned (.bool (fracB p U L)) ∧ Below w.heap.size w w' := by
  obtain ⟨A, n, c, b, o, A', n', c', b', o', rfl, g1, g2⟩ := h
  have hB0 : Below w.heap.size w (w.alloc (.cells #[.int .i64 p, .slice A n c, .slice A' n' c'] 46)) := (Below.refl _ w).alloc (Nat.le_refl _) _
  have hbig := g1.big
  have hbig' := g2.big
  have HL := Lib.hid g1.len
  have HL' := Lib.hid g2.len
  have HV := Lib.hid (show RV (w.alloc (.cells #[.int .i64 p, .slice A n c, .slice A' n' c'] 46)) (.agg #[.int .i64 p, .slice A n c, .slice A' n' c']) p U L from ⟨_, _, _, _, _, _, _, _, _, _, rfl, g1.below hB0, g2.below hB0⟩)
  have H := Lib.hid (g1.below hB0)
  have H' := Lib.hid (g2.below hB0)
  have HG := Lib.hid (hge.below hB0)
  have HBX := Lib.hid (Bx.new w (.int .i64 p) (.slice A n c) (.slice A' n' c') 46)
  have HB0 := Lib.hid hB0
  clear g1 g2 hB0 hge
  have hE := fracB_eq p U L
  rcases hT : polB p U
  · have HT := Lib.hid hT
    have HF := Lib.hid (show fracB p U L = false by rw [hE, hT]; rfl)
    clear hT hE
    go_enter Tryd.func36, Tryd.ntmps36
    go_wp2_with (go_at_call 58; (with_reducible refine (implPolyValid p A n c b o U _ H.out).mono ?_); rintro e w1 ⟨rfl, rfl⟩; rw [HT.out])
    go_ret
    exact ⟨ret_bool HF.out.symm, HB0.out⟩
  have HT := Lib.hid hT
  rcases hF : polB p L
  · have HTF := Lib.hid hF
    have HF := Lib.hid (show fracB p U L = false by rw [hE, hF]; simp)
    clear hT hE hF
    go_enter Tryd.func36, Tryd.ntmps36
    go_wp2_with (first | (go_at_call 58; (with_reducible refine (implPolyValid p A n c b o U _ H.out).mono ?_); rintro e w1 ⟨rfl, rfl⟩; rw [HT.out]) | (go_at_call 58; (with_reducible refine (implPolyValid p A' n' c' b' o' L _ H'.out).mono ?_); rintro e w1 ⟨rfl, rfl⟩; rw [HTF.out]))
    go_ret
    exact ⟨ret_bool HF.out.symm, HB0.out⟩
  have HTF := Lib.hid hF
  rw [hT, hF, HL.out, HL'.out] at hE
  have hneg : (12 < n ∨ 12 < n') → fracB p U L = false := fun h => by
    rw [hE]
    by_cases h2 : n ≤ 12
    · have : ¬ n' ≤ 12 := by omega
      simp [this]
    · simp [h2]
  have hpos : n ≤ 12 → n' ≤ 12 → fracB p U L = !badL L := fun h1 h2 => by rw [hE]; simp [h1, h2]
  have HNEG := Lib.hid hneg
  have HPOS := Lib.hid hpos
  clear hT hE hF hneg hpos
  by_cases hlt : n < n'
  · by_cases h12 : n' ≤ 12
    case neg =>
      have h12i : (12 : Int) < (n' : Int) := by omega
      go_enter Tryd.func36, Tryd.ntmps36
      go_wp2_with (first | (go_at_call 58; (with_reducible refine (implPolyValid p A n c b o U _ H.out).mono ?_); rintro e w1 ⟨rfl, rfl⟩; rw [HT.out]) | (go_at_call 58; (with_reducible refine (implPolyValid p A' n' c' b' o' L _ H'.out).mono ?_); rintro e w1 ⟨rfl, rfl⟩; rw [HTF.out]))
      go_ret
      exact ⟨ret_bool (HNEG.out (.inr (by omega))).symm, HB0.out⟩
    have h12i : ¬ (12 : Int) < (n' : Int) := by omega
    have HF := Lib.hid (HPOS.out (by omega) h12)
    have hLn : L.length ≤ 1048576 := by rw [HL'.out]; omega
    go_enter Tryd.func36, Tryd.ntmps36
    go_wp2_with (first | (go_at_call 58; (with_reducible refine (implPolyValid p A n c b o U _ H.out).mono ?_); rintro e w1 ⟨rfl, rfl⟩; rw [HT.out]) | (go_at_call 58; (with_reducible refine (implPolyValid p A' n' c' b' o' L _ H'.out).mono ?_); rintro e w1 ⟨rfl, rfl⟩; rw [HTF.out]))
    have HVd := Lib.hid (HV.out.below (below_new_drew _))
    have ZS := And.intro HBX.out HG.out
    have Zd := And.intro HBX.out.drew HG.out.drew
    have HBd := Lib.hid HB0.out.drew
    have Q1 : True := trivial
    unfold Bx GE at ZS Zd
    go_region_held3 (fun w' => (w'.cell? ⟨w.heap.size, 0, none⟩ = some (.int .i64 p) ∧ w'.cell? ⟨w.heap.size, 1, none⟩ = some (.slice A n c) ∧ w'.cell? ⟨w.heap.size, 2, none⟩ = some (.slice A' n' c')) ∧ w'.cell? ⟨0, 0, none⟩ = some (.iface 119 (.pointer (some ge)))) (first | assumption | exact ZB | exact ZA | exact Zd | exact ZS | go_keep)
      (first
        | (go_at_call 61; refine (lower_any _ p U L _ HVd.out hLn).mono ?_; rintro e w2 ⟨A5, c5, rfl, hO, hB⟩; have HB2 := Lib.hid (below_more HBd.out hB); have HBX2 := Lib.hid (HBX.out.drew.below hB); have HG2 := Lib.hid (HG.out.drew.below hB); have ZA := And.intro HBX2.out HG2.out; unfold Bx GE at ZA; obtain ⟨b5, hI⟩ := OT.it hO; have HI5 := Lib.hid hI; clear hO hB hI)
        | (go_at_call 60; refine (checkLow_any p A5 L.length c5 b5 L _ HI5.out ge HG2.out).mono ?_; rintro e w3 ⟨rfl, hB⟩; have HB3 := Lib.hid (below_more HB2.out hB); have HBX3 := Lib.hid (HBX2.out.below hB); have HG3 := Lib.hid (HG2.out.below hB); have ZB := And.intro HBX3.out HG3.out; unfold Bx GE at ZB; clear hB)
        | (go_at_call 59; refine (is_any ge (badL L) _).mono ?_; rintro e w4 ⟨rfl, rfl⟩))
    all_goals
      go_wp2_with (fail)
      go_ret
      exact ⟨ret_bool HF.out.symm, HB3.out⟩
  · by_cases h12 : n ≤ 12
    case neg =>
      have h12i : (12 : Int) < (n : Int) := by omega
      go_enter Tryd.func36, Tryd.ntmps36
      go_wp2_with (first | (go_at_call 58; (with_reducible refine (implPolyValid p A n c b o U _ H.out).mono ?_); rintro e w1 ⟨rfl, rfl⟩; rw [HT.out]) | (go_at_call 58; (with_reducible refine (implPolyValid p A' n' c' b' o' L _ H'.out).mono ?_); rintro e w1 ⟨rfl, rfl⟩; rw [HTF.out]))
      go_ret
      exact ⟨ret_bool (HNEG.out (.inl (by omega))).symm, HB0.out⟩
    have h12i : ¬ (12 : Int) < (n : Int) := by omega
    have HF := Lib.hid (HPOS.out h12 (by omega))
    have hLn : L.length ≤ 1048576 := by rw [HL'.out]; omega
    go_enter Tryd.func36, Tryd.ntmps36
    go_wp2_with (first | (go_at_call 58; (with_reducible refine (implPolyValid p A n c b o U _ H.out).mono ?_); rintro e w1 ⟨rfl, rfl⟩; rw [HT.out]) | (go_at_call 58; (with_reducible refine (implPolyValid p A' n' c' b' o' L _ H'.out).mono ?_); rintro e w1 ⟨rfl, rfl⟩; rw [HTF.out]))
    have HVd := Lib.hid (HV.out.below (below_new_drew _))
    have ZS := And.intro HBX.out HG.out
    have Zd := And.intro HBX.out.drew HG.out.drew
    have HBd := Lib.hid HB0.out.drew
    have Q1 : True := trivial
    unfold Bx GE at ZS Zd
    go_region_held3 (fun w' => (w'.cell? ⟨w.heap.size, 0, none⟩ = some (.int .i64 p) ∧ w'.cell? ⟨w.heap.size, 1, none⟩ = some (.slice A n c) ∧ w'.cell? ⟨w.heap.size, 2, none⟩ = some (.slice A' n' c')) ∧ w'.cell? ⟨0, 0, none⟩ = some (.iface 119 (.pointer (some ge)))) (first | assumption | exact ZB | exact ZA | exact Zd | exact ZS | go_keep)
      (first
        | (go_at_call 61; refine (lower_any _ p U L _ HVd.out hLn).mono ?_; rintro e w2 ⟨A5, c5, rfl, hO, hB⟩; have HB2 := Lib.hid (below_more HBd.out hB); have HBX2 := Lib.hid (HBX.out.drew.below hB); have HG2 := Lib.hid (HG.out.drew.below hB); have ZA := And.intro HBX2.out HG2.out; unfold Bx GE at ZA; obtain ⟨b5, hI⟩ := OT.it hO; have HI5 := Lib.hid hI; clear hO hB hI)
        | (go_at_call 60; refine (checkLow_any p A5 L.length c5 b5 L _ HI5.out ge HG2.out).mono ?_; rintro e w3 ⟨rfl, hB⟩; have HB3 := Lib.hid (below_more HB2.out hB); have HBX3 := Lib.hid (HBX2.out.below hB); have HG3 := Lib.hid (HG2.out.below hB); have ZB := And.intro HBX3.out HG3.out; unfold Bx GE at ZB; clear hB)
        | (go_at_call 59; refine (is_any ge (badL L) _).mono ?_; rintro e w4 ⟨rfl, rfl⟩))
    all_goals
      go_wp2_with (fail)
      go_ret
      exact ⟨ret_bool HF.out.symm, HB3.out⟩
end Go.Proofs.YtecmclaockmgeaaDoor
