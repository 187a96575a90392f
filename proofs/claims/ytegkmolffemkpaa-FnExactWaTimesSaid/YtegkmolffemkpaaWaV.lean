/-
  The contracts of WaValid, of the program and of its model.
-/
import Derived.Test.YtegkmolffemkpaaWc
import Derived.Test.YtegkmolffemkpaaSer
namespace Go.Proofs.Ytegkmolffemkpaa
open Go.RowKit
def sqB (p : Int) (n : Nat) (M : List (List Int)) : Bool := M.all (rowOk p n) && decide (M.length = n)
def waB (p : Int) (S : List Int) (MA MB : List (List Int)) (E : List Int) : Bool :=
  primeB p && (decide (S.length ≤ 6) && (decide (E.length = S.length) && (rowB p S && (rowB p E && (sqB p S.length MA && sqB p S.length MB)))))
theorem waB_true {p : Int} {S : List Int} {MA MB : List (List Int)} {E : List Int} (h : waB p S MA MB E = true) : primeB p = true ∧ S.length ≤ 6 ∧ E.length = S.length ∧ rowB p S = true ∧ rowB p E = true ∧ sqB p S.length MA = true ∧ sqB p S.length MB = true := by
  simpa only [waB, Bool.and_eq_true, decide_eq_true_eq] using h
theorem sqB_true {p : Int} {n : Nat} {M : List (List Int)} (h : sqB p n M = true) : M.length = n ∧ ∀ row ∈ M, row.length = n ∧ rowB p row = true := by
  simp only [sqB, Bool.and_eq_true, decide_eq_true_eq, List.all_eq_true, rowOk] at h
  exact ⟨h.2, h.1⟩
theorem sqB_mk {p : Int} {n : Nat} {M : List (List Int)} (h1 : M.length = n) (h2 : ∀ row ∈ M, row.length = n ∧ rowB p row = true) : sqB p n M = true := by
  simp only [sqB, Bool.and_eq_true, decide_eq_true_eq, List.all_eq_true, rowOk]
  exact ⟨h2, h1⟩
theorem squareValid (p : Int) (A : Option Addr) (n c b o : Nat) (M : List (List Int)) (s : Nat) (w : World) (h : RA w A n b o M) (hs : s ≤ 9223372036854775807) :
    Calls Try.prog 50 #[.int .i64 p, .slice A n c, .int .i64 s] w fun e w' => e = .returned (.bool (sqB p s M)) ∧ w = w' := by
  have hbig := h.big
  have hlen := h.len
  by_cases hl : n = s
  case neg =>
    have hq := neInt hl
    have HF := Lib.hid (show sqB p s M = false by unfold sqB; rw [hlen, decide_eq_false hl, Bool.and_false])
    clear h hlen
    go_enter Try.func50, Try.ntmps50
    go_wp2_with (fail)
    go_ret
    exact ⟨ret_bool HF.out.symm, rfl⟩
  subst hl
  have hq : ((n : Int) != (n : Int)) = false := by simp
  have H := Lib.hid h
  have HL := Lib.hid hlen
  clear h hlen
  go_enter Try.func50, Try.ntmps50
  go_wp2_with (fail)
  go_loop [15] (fun i => ∃ k : Nat, k ≤ n ∧ i = .int .i64 k ∧ Hid ((M.take k).all (rowOk p n) = true)) (fun i => n - (intOf i).toNat)
  case atStart => exact ⟨0, by omega, rfl, by simp [Hid]⟩
  case round =>
    obtain ⟨k, hk, rfl, hall⟩ := hrel
    by_cases hlt : k < n
    · obtain rfl := H.out.adr (by omega)
      obtain ⟨row, A1, c1, b1, o1, hr, hc, hI⟩ := H.out.row k hlt
      have hbig1 := hI.big
      have HI := Lib.hid hI
      have HR := Lib.hid hr
      clear hI hr
      by_cases hl : row.length = n
      · have hq2 := eqInt hl
        rcases hv : rowB p row
        · have HV := Lib.hid hv
          have HQ := Lib.hid (show sqB p n M = false by unfold sqB; rw [all_fail _ _ _ _ HR.out (show rowOk p n row = false by simp [rowOk, hv])]; rfl)
          clear hv hl
          go_wp2_with (go_at_call 49; refine (allValid_any p A1 _ c1 b1 o1 row _ HI.out).mono ?_; rintro e w' ⟨rfl, rfl⟩; rw [HV.out])
          go_ret
          exact ⟨ret_bool HQ.out.symm, rfl⟩
        · have HV := Lib.hid hv
          have HQ := Lib.hid hl
          clear hv hl
          go_wp2_with (go_at_call 49; refine (allValid_any p A1 _ c1 b1 o1 row _ HI.out).mono ?_; rintro e w' ⟨rfl, rfl⟩; rw [HV.out])
          go_round
          case rel => exact ⟨k + 1, by omega, by go_num, by unfold Hid; rw [all_take _ _ _ _ HR.out, hall.out]; simp [rowOk, HV.out, HQ.out]⟩
          case measure => simp [intOf]; omega
      · have hq2 := neInt hl
        have HQ := Lib.hid (show sqB p n M = false by unfold sqB; rw [all_fail _ _ _ _ HR.out (show rowOk p n row = false by simp [rowOk, hl])]; rfl)
        go_wp2_with (fail)
        go_ret
        exact ⟨ret_bool HQ.out.symm, rfl⟩
    · have HQ := Lib.hid (show sqB p n M = true by unfold sqB; rw [all_done _ _ k (by rw [HL.out]; omega) hall.out, HL.out]; simp)
      go_wp2_with (fail)
      go_ret
      exact ⟨ret_bool HQ.out.symm, rfl⟩
theorem specSquare (p : Int) (A : Option Addr) (n c b o : Nat) (M : List (List Int)) (s : Nat) (w : World) (h : RA w A n b o M) (hs : s ≤ 24) (hp : primeB p = true) :
    Calls Try.prog 52 #[.int .i64 p, .slice A n c, .int .i64 s] w (BoolPost (sqB p s M) w) := by
  have hbig := h.big
  have hlen := h.len
  have H := Lib.hid h
  have HL := Lib.hid hlen
  have HP := Lib.hid hp
  clear h hlen hp
  go_enter Try.func52, Try.ntmps52
  go_wp2_with (fail)
  go_loopw [7] (fun i wr => ∃ k : Nat, k ≤ n ∧ i = .int .i64 k ∧ Hid ((M.take k).all (rowOk p s) = true) ∧ Hid (∃ m, wr = w.drewN m)) (fun i _ => n - (intOf i).toNat)
  case atStart => exact ⟨0, by omega, rfl, by simp [Hid], 0, rfl⟩
  case round =>
    obtain ⟨k, hk, rfl, hall, hw⟩ := hrel
    by_cases hlt : k < n
    · have Hr := Lib.hid (H.out.drewN hw.out)
      obtain rfl := H.out.adr (by omega)
      obtain ⟨row, A1, c1, b1, o1, hr, hc, hI⟩ := Hr.out.row k hlt
      have hbig1 := hI.big
      have HI := Lib.hid hI
      have HR := Lib.hid hr
      clear hI hr
      by_cases hl : row.length = s
      · have hq2 := eqInt hl
        have HS := Lib.hid (show serB p row = rowB p row by unfold serB; rw [HP.out, decide_eq_true (show row.length ≤ 24 by omega)]; simp)
        rcases hv : rowB p row
        · have HV := Lib.hid (HS.out.trans hv)
          have HQ := Lib.hid (show sqB p s M = false by unfold sqB; rw [all_fail _ _ _ _ HR.out (show rowOk p s row = false by simp [rowOk, hv])]; rfl)
          clear hv hl
          go_wp2_with (go_at_call 51; refine (specSeriesValid p A1 _ c1 b1 o1 row _ HI.out).mono ?_; rintro e w' ⟨rfl, rfl⟩; rw [HV.out])
          go_ret
          exact ⟨ret_bool HQ.out.symm, hw.out⟩
        · have HV := Lib.hid (HS.out.trans hv)
          have HV0 := Lib.hid hv
          have HQ := Lib.hid hl
          clear hv hl
          go_wp2_with (go_at_call 51; refine (specSeriesValid p A1 _ c1 b1 o1 row _ HI.out).mono ?_; rintro e w' ⟨rfl, rfl⟩; rw [HV.out])
          go_roundw
          case rel => exact ⟨k + 1, by omega, by go_num, by unfold Hid; rw [all_take _ _ _ _ HR.out, hall.out]; simp [rowOk, HV0.out, HQ.out], hw⟩
          case measure => simp [intOf]; omega
      · have hq2 := neInt hl
        have HQ := Lib.hid (show sqB p s M = false by unfold sqB; rw [all_fail _ _ _ _ HR.out (show rowOk p s row = false by simp [rowOk, hl])]; rfl)
        go_wp2_with (fail)
        go_ret
        exact ⟨ret_bool HQ.out.symm, hw.out⟩
    · have HQ := Lib.hid (show sqB p s M = decide ((n : Int) = (s : Int)) by unfold sqB; rw [all_done _ _ k (by rw [HL.out]; omega) hall.out, HL.out, Bool.true_and]; exact decide_eq_decide.2 (by omega))
      go_wp2_with (fail)
      go_ret
      exact ⟨ret_bool HQ.out.symm, hw.out⟩

theorem wa_spec {p : Int} {S : List Int} {MA MB : List (List Int)} {E : List Int} : waB p S MA MB E = (serB p S && (serB p E && (decide (E.length = S.length) && (decide (S.length ≤ 6) && (sqB p S.length MA && sqB p S.length MB))))) := by
  rw [Bool.eq_iff_iff]
  simp only [waB, serB, Bool.and_eq_true, decide_eq_true_eq]
  constructor
  · rintro ⟨h1, h2, h3, h4, h5, h6⟩
    exact ⟨⟨h4, h1, by omega⟩, ⟨h5, h1, by omega⟩, h3, h2, h6⟩
  · rintro ⟨⟨h4, h1, _⟩, ⟨h5, _, _⟩, h3, h2, h6⟩
    exact ⟨h1, h2, h3, h4, h5, h6⟩
theorem neIntB {a b : Nat} (h : a ≠ b) : ((a : Int) == (b : Int)) = false := by simp; omega
theorem eqIntB {a b : Nat} (h : a = b) : ((a : Int) == (b : Int)) = true := by subst h; simp
set_option maxRecDepth 100000 in
theorem specWaValid (v : Value) (p : Int) (S : List Int) (MA MB : List (List Int)) (E : List Int) (w : World) (h : WV w v p S MA MB E) :
    Calls Try.prog 17 #[v] w fun e w' => e = .returned (.bool (waB p S MA MB E)) ∧ Below w.heap.size w w' := by
  obtain ⟨A1, n1, c1, b1, o1, A2, n2, c2, b2, o2, A3, n3, c3, b3, o3, A4, n4, c4, b4, o4, rfl, g1, g2, g3, g4⟩ := h
  have hB0 : Below w.heap.size w (w.alloc (.cells #[.int .i64 p, .slice A1 n1 c1, .slice A2 n2 c2, .slice A3 n3 c3, .slice A4 n4 c4] 26)) := (Below.refl _ w).alloc (Nat.le_refl _) _
  have hb1 := g1.big
  have HL1 := Lib.hid g1.len
  have G1 := Lib.hid (g1.below hB0)
  have hb2 := g2.big
  have HL2 := Lib.hid g2.len
  have G2 := Lib.hid (g2.below hB0)
  have hb3 := g3.big
  have HL3 := Lib.hid g3.len
  have G3 := Lib.hid (g3.below hB0)
  have hb4 := g4.big
  have HL4 := Lib.hid g4.len
  have G4 := Lib.hid (g4.below hB0)
  have HB := Lib.hid hB0
  clear g1 g2 g3 g4 hB0
  have HW := Lib.hid (show waB p S MA MB E = (serB p S && (serB p E && (decide (n4 = n1) && (decide (n1 ≤ 6) && (sqB p n1 MA && sqB p n1 MB))))) by rw [wa_spec, HL1.out, HL4.out])
  rcases hv : serB p S
  case false =>
    have HS := Lib.hid hv
    clear hv
    go_enter Try.func17, Try.ntmps17
    go_wp2_with (first | (go_at_call 51; with_reducible refine (specSeriesValid p A1 n1 c1 b1 o1 S _ G1.out).mono ?_; rintro e w' ⟨rfl, rfl⟩; rw [HS.out]))
    go_ret
    exact ⟨ret_bool (by rw [HW.out, HS.out]; simp), by first | exact HB.out | exact below_drawn HB.out ⟨_, rfl⟩⟩
  have HS := Lib.hid hv
  have HP := Lib.hid (serB_true hv).1
  clear hv
  rcases hv : serB p E
  case false =>
    have HE := Lib.hid hv
    clear hv
    go_enter Try.func17, Try.ntmps17
    go_wp2_with (first | (go_at_call 51; with_reducible refine (specSeriesValid p A1 n1 c1 b1 o1 S _ G1.out).mono ?_; rintro e w' ⟨rfl, rfl⟩; rw [HS.out]) | (go_at_call 51; with_reducible refine (specSeriesValid p A4 n4 c4 b4 o4 E _ G4.out).mono ?_; rintro e w' ⟨rfl, rfl⟩; rw [HE.out]))
    go_ret
    exact ⟨ret_bool (by rw [HW.out, HS.out, HE.out]; simp), by first | exact HB.out | exact below_drawn HB.out ⟨_, rfl⟩⟩
  have HE := Lib.hid hv
  clear hv
  by_cases hN : n4 = n1
  case neg =>
    have hq := neIntB hN
    have DN := Lib.hid (decide_eq_false hN)
    clear hN
    go_enter Try.func17, Try.ntmps17
    go_wp2_with (first | (go_at_call 51; with_reducible refine (specSeriesValid p A1 n1 c1 b1 o1 S _ G1.out).mono ?_; rintro e w' ⟨rfl, rfl⟩; rw [HS.out]) | (go_at_call 51; with_reducible refine (specSeriesValid p A4 n4 c4 b4 o4 E _ G4.out).mono ?_; rintro e w' ⟨rfl, rfl⟩; rw [HE.out]))
    go_ret
    exact ⟨ret_bool (by rw [HW.out, HS.out, HE.out, DN.out]; simp), by first | exact HB.out | exact below_drawn HB.out ⟨_, rfl⟩⟩
  have hq := eqIntB hN
  have DN := Lib.hid (decide_eq_true hN)
  clear hN
  by_cases h6 : n1 ≤ 6
  case neg =>
    have D6 := Lib.hid (decide_eq_false h6)
    go_enter Try.func17, Try.ntmps17
    go_wp2_with (first | (go_at_call 51; with_reducible refine (specSeriesValid p A1 n1 c1 b1 o1 S _ G1.out).mono ?_; rintro e w' ⟨rfl, rfl⟩; rw [HS.out]) | (go_at_call 51; with_reducible refine (specSeriesValid p A4 n4 c4 b4 o4 E _ G4.out).mono ?_; rintro e w' ⟨rfl, rfl⟩; rw [HE.out]))
    go_ret
    exact ⟨ret_bool (by rw [HW.out, HS.out, HE.out, DN.out, D6.out]; simp), by first | exact HB.out | exact below_drawn HB.out ⟨_, rfl⟩⟩
  have D6 := Lib.hid (decide_eq_true h6)
  rcases hv : sqB p n1 MA
  case false =>
    have HA := Lib.hid hv
    clear hv
    go_enter Try.func17, Try.ntmps17
    go_wp2_with (first | (go_at_call 51; with_reducible refine (specSeriesValid p A1 n1 c1 b1 o1 S _ G1.out).mono ?_; rintro e w' ⟨rfl, rfl⟩; rw [HS.out]) | (go_at_call 51; with_reducible refine (specSeriesValid p A4 n4 c4 b4 o4 E _ G4.out).mono ?_; rintro e w' ⟨rfl, rfl⟩; rw [HE.out]))
    with_reducible refine (specSquare p A2 n2 c2 b2 o2 MA n1 _ G2.out (by omega) HP.out).mono ?_
    rintro e w1 ⟨rfl, ⟨m, rfl⟩⟩
    rw [HA.out]
    go_wp2_with (fail)
    go_ret
    exact ⟨ret_bool (by rw [HW.out, HS.out, HE.out, DN.out, D6.out, HA.out]; simp), by first | exact HB.out | exact below_drawn HB.out ⟨_, rfl⟩⟩
  have HA := Lib.hid hv
  clear hv
  rcases hv : sqB p n1 MB
  case false =>
    have HC := Lib.hid hv
    clear hv
    go_enter Try.func17, Try.ntmps17
    go_wp2_with (first | (go_at_call 51; with_reducible refine (specSeriesValid p A1 n1 c1 b1 o1 S _ G1.out).mono ?_; rintro e w' ⟨rfl, rfl⟩; rw [HS.out]) | (go_at_call 51; with_reducible refine (specSeriesValid p A4 n4 c4 b4 o4 E _ G4.out).mono ?_; rintro e w' ⟨rfl, rfl⟩; rw [HE.out]))
    with_reducible refine (specSquare p A2 n2 c2 b2 o2 MA n1 _ G2.out (by omega) HP.out).mono ?_
    rintro e w1 ⟨rfl, ⟨m, rfl⟩⟩
    rw [HA.out]
    go_wp2_with (fail)
    with_reducible refine (specSquare p A3 n3 c3 b3 o3 MB n1 _ (G3.out.drewN ⟨_, rfl⟩) (by omega) HP.out).mono ?_
    rintro e w2 ⟨rfl, ⟨m, rfl⟩⟩
    rw [HC.out]
    go_wp2_with (fail)
    go_ret
    exact ⟨ret_bool (by rw [HW.out, HS.out, HE.out, DN.out, D6.out, HA.out, HC.out]; simp), by first | exact HB.out | exact below_drawn HB.out ⟨_, rfl⟩⟩
  have HC := Lib.hid hv
  clear hv
  go_enter Try.func17, Try.ntmps17
  go_wp2_with (first | (go_at_call 51; with_reducible refine (specSeriesValid p A1 n1 c1 b1 o1 S _ G1.out).mono ?_; rintro e w' ⟨rfl, rfl⟩; rw [HS.out]) | (go_at_call 51; with_reducible refine (specSeriesValid p A4 n4 c4 b4 o4 E _ G4.out).mono ?_; rintro e w' ⟨rfl, rfl⟩; rw [HE.out]))
  with_reducible refine (specSquare p A2 n2 c2 b2 o2 MA n1 _ G2.out (by omega) HP.out).mono ?_
  rintro e w1 ⟨rfl, ⟨m, rfl⟩⟩
  rw [HA.out]
  go_wp2_with (fail)
  with_reducible refine (specSquare p A3 n3 c3 b3 o3 MB n1 _ (G3.out.drewN ⟨_, rfl⟩) (by omega) HP.out).mono ?_
  rintro e w2 ⟨rfl, ⟨m, rfl⟩⟩
  rw [HC.out]
  go_wp2_with (fail)
  go_ret
  exact ⟨ret_bool (by rw [HW.out, HS.out, HE.out, DN.out, D6.out, HA.out, HC.out]; simp), by first | exact HB.out | exact below_drawn HB.out ⟨_, rfl⟩⟩
set_option maxRecDepth 100000 in
theorem implWaValid (v : Value) (p : Int) (S : List Int) (MA MB : List (List Int)) (E : List Int) (w : World) (h : WV w v p S MA MB E) :
    Calls Try.prog 16 #[v] w fun e w' => e = .returned (.bool (waB p S MA MB E)) ∧ Below w.heap.size w w' := by
  obtain ⟨A1, n1, c1, b1, o1, A2, n2, c2, b2, o2, A3, n3, c3, b3, o3, A4, n4, c4, b4, o4, rfl, g1, g2, g3, g4⟩ := h
  have hB0 : Below w.heap.size w (w.alloc (.cells #[.int .i64 p, .slice A1 n1 c1, .slice A2 n2 c2, .slice A3 n3 c3, .slice A4 n4 c4] 26)) := (Below.refl _ w).alloc (Nat.le_refl _) _
  have hb1 := g1.big
  have HL1 := Lib.hid g1.len
  have G1 := Lib.hid (g1.below hB0)
  have hb2 := g2.big
  have HL2 := Lib.hid g2.len
  have G2 := Lib.hid (g2.below hB0)
  have hb3 := g3.big
  have HL3 := Lib.hid g3.len
  have G3 := Lib.hid (g3.below hB0)
  have hb4 := g4.big
  have HL4 := Lib.hid g4.len
  have G4 := Lib.hid (g4.below hB0)
  have HB := Lib.hid hB0
  clear g1 g2 g3 g4 hB0
  have HW := Lib.hid (show waB p S MA MB E = (primeB p && (decide (n1 ≤ 6) && (decide (n4 = n1) && (rowB p S && (rowB p E && (sqB p n1 MA && sqB p n1 MB)))))) by unfold waB; rw [HL1.out, HL4.out])
  rcases hv : primeB p
  case false =>
    have HP := Lib.hid hv
    clear hv
    go_enter Try.func16, Try.ntmps16
    go_wp2_with (first | (go_at_call 18; with_reducible refine (implPrimeOk _ _).mono ?_; rintro e w' ⟨rfl, rfl⟩; rw [HP.out]))
    go_ret
    exact ⟨ret_bool (by rw [HW.out, HP.out]; simp), by first | exact HB.out | exact below_drawn HB.out ⟨_, rfl⟩⟩
  have HP := Lib.hid hv
  clear hv
  by_cases h6 : n1 ≤ 6
  case neg =>
    have D6 := Lib.hid (decide_eq_false h6)
    go_enter Try.func16, Try.ntmps16
    go_wp2_with (first | (go_at_call 18; with_reducible refine (implPrimeOk _ _).mono ?_; rintro e w' ⟨rfl, rfl⟩; rw [HP.out]))
    go_ret
    exact ⟨ret_bool (by rw [HW.out, HP.out, D6.out]; simp), by first | exact HB.out | exact below_drawn HB.out ⟨_, rfl⟩⟩
  have D6 := Lib.hid (decide_eq_true h6)
  by_cases hN : n4 = n1
  case neg =>
    have hq := neInt hN
    have DN := Lib.hid (decide_eq_false hN)
    clear hN
    go_enter Try.func16, Try.ntmps16
    go_wp2_with (first | (go_at_call 18; with_reducible refine (implPrimeOk _ _).mono ?_; rintro e w' ⟨rfl, rfl⟩; rw [HP.out]))
    go_ret
    exact ⟨ret_bool (by rw [HW.out, HP.out, D6.out, DN.out]; simp), by first | exact HB.out | exact below_drawn HB.out ⟨_, rfl⟩⟩
  have hq := eqInt hN
  have DN := Lib.hid (decide_eq_true hN)
  clear hN
  rcases hv : rowB p S
  case false =>
    have HS := Lib.hid hv
    clear hv
    go_enter Try.func16, Try.ntmps16
    go_wp2_with (first | (go_at_call 18; with_reducible refine (implPrimeOk _ _).mono ?_; rintro e w' ⟨rfl, rfl⟩; rw [HP.out]) | (go_at_call 49; with_reducible refine (allValid_any p A1 n1 c1 b1 o1 S _ G1.out).mono ?_; rintro e w' ⟨rfl, rfl⟩; rw [HS.out]))
    go_ret
    exact ⟨ret_bool (by rw [HW.out, HP.out, D6.out, DN.out, HS.out]; simp), by first | exact HB.out | exact below_drawn HB.out ⟨_, rfl⟩⟩
  have HS := Lib.hid hv
  clear hv
  rcases hv : rowB p E
  case false =>
    have HE := Lib.hid hv
    clear hv
    go_enter Try.func16, Try.ntmps16
    go_wp2_with (first | (go_at_call 18; with_reducible refine (implPrimeOk _ _).mono ?_; rintro e w' ⟨rfl, rfl⟩; rw [HP.out]) | (go_at_call 49; with_reducible refine (allValid_any p A1 n1 c1 b1 o1 S _ G1.out).mono ?_; rintro e w' ⟨rfl, rfl⟩; rw [HS.out]) | (go_at_call 49; with_reducible refine (allValid_any p A4 n4 c4 b4 o4 E _ G4.out).mono ?_; rintro e w' ⟨rfl, rfl⟩; rw [HE.out]))
    go_ret
    exact ⟨ret_bool (by rw [HW.out, HP.out, D6.out, DN.out, HS.out, HE.out]; simp), by first | exact HB.out | exact below_drawn HB.out ⟨_, rfl⟩⟩
  have HE := Lib.hid hv
  clear hv
  rcases hv : sqB p n1 MA
  case false =>
    have HA := Lib.hid hv
    clear hv
    go_enter Try.func16, Try.ntmps16
    go_wp2_with (first | (go_at_call 18; with_reducible refine (implPrimeOk _ _).mono ?_; rintro e w' ⟨rfl, rfl⟩; rw [HP.out]) | (go_at_call 49; with_reducible refine (allValid_any p A1 n1 c1 b1 o1 S _ G1.out).mono ?_; rintro e w' ⟨rfl, rfl⟩; rw [HS.out]) | (go_at_call 49; with_reducible refine (allValid_any p A4 n4 c4 b4 o4 E _ G4.out).mono ?_; rintro e w' ⟨rfl, rfl⟩; rw [HE.out]) | (go_at_call 50; with_reducible refine (squareValid p A2 n2 c2 b2 o2 MA n1 _ G2.out (by omega)).mono ?_; rintro e w' ⟨rfl, rfl⟩; rw [HA.out]))
    go_ret
    exact ⟨ret_bool (by rw [HW.out, HP.out, D6.out, DN.out, HS.out, HE.out, HA.out]; simp), by first | exact HB.out | exact below_drawn HB.out ⟨_, rfl⟩⟩
  have HA := Lib.hid hv
  clear hv
  rcases hv : sqB p n1 MB
  case false =>
    have HC := Lib.hid hv
    clear hv
    go_enter Try.func16, Try.ntmps16
    go_wp2_with (first | (go_at_call 18; with_reducible refine (implPrimeOk _ _).mono ?_; rintro e w' ⟨rfl, rfl⟩; rw [HP.out]) | (go_at_call 49; with_reducible refine (allValid_any p A1 n1 c1 b1 o1 S _ G1.out).mono ?_; rintro e w' ⟨rfl, rfl⟩; rw [HS.out]) | (go_at_call 49; with_reducible refine (allValid_any p A4 n4 c4 b4 o4 E _ G4.out).mono ?_; rintro e w' ⟨rfl, rfl⟩; rw [HE.out]) | (go_at_call 50; with_reducible refine (squareValid p A2 n2 c2 b2 o2 MA n1 _ G2.out (by omega)).mono ?_; rintro e w' ⟨rfl, rfl⟩; rw [HA.out]) | (go_at_call 50; with_reducible refine (squareValid p A3 n3 c3 b3 o3 MB n1 _ G3.out (by omega)).mono ?_; rintro e w' ⟨rfl, rfl⟩; rw [HC.out]))
    go_ret
    exact ⟨ret_bool (by rw [HW.out, HP.out, D6.out, DN.out, HS.out, HE.out, HA.out, HC.out]; simp), by first | exact HB.out | exact below_drawn HB.out ⟨_, rfl⟩⟩
  have HC := Lib.hid hv
  clear hv
  go_enter Try.func16, Try.ntmps16
  go_wp2_with (first | (go_at_call 18; with_reducible refine (implPrimeOk _ _).mono ?_; rintro e w' ⟨rfl, rfl⟩; rw [HP.out]) | (go_at_call 49; with_reducible refine (allValid_any p A1 n1 c1 b1 o1 S _ G1.out).mono ?_; rintro e w' ⟨rfl, rfl⟩; rw [HS.out]) | (go_at_call 49; with_reducible refine (allValid_any p A4 n4 c4 b4 o4 E _ G4.out).mono ?_; rintro e w' ⟨rfl, rfl⟩; rw [HE.out]) | (go_at_call 50; with_reducible refine (squareValid p A2 n2 c2 b2 o2 MA n1 _ G2.out (by omega)).mono ?_; rintro e w' ⟨rfl, rfl⟩; rw [HA.out]) | (go_at_call 50; with_reducible refine (squareValid p A3 n3 c3 b3 o3 MB n1 _ G3.out (by omega)).mono ?_; rintro e w' ⟨rfl, rfl⟩; rw [HC.out]))
  go_ret
  exact ⟨ret_bool (by rw [HW.out, HP.out, D6.out, DN.out, HS.out, HE.out, HA.out, HC.out]; simp), by first | exact HB.out | exact below_drawn HB.out ⟨_, rfl⟩⟩
end Go.Proofs.Ytegkmolffemkpaa
