/-
  The contract of the sum of two rows of numbers with their prime.
-/
import Derived.Test.YtmmadmfpbancmabCl
import Derived.Test.YtmmadmfpbancmabPolM
import Derived.Deep.RegionWith
namespace Go.Proofs.Ytmmadmfpbancmab
open Go.RowKit
theorem OZ.cells {w : World} {B g n c : Nat} {zs : List (Int × Int)} (h : OZ w B (some ⟨g, 0, none⟩) n c zs) {i : Nat} {z : Int × Int} (hz : zs[i]? = some z) : w.cell? ⟨g, i * 2, none⟩ = some (.int .i64 z.1) ∧ w.cell? ⟨g, i * 2 + 1, none⟩ = some (.int .i64 z.2) ∧ w.frozen? ⟨g, i * 2, none⟩ = false ∧ w.frozen? ⟨g, i * 2 + 1, none⟩ = false := by
  have hl := OZ.len h
  have hi := (List.getElem?_eq_some_iff.1 hz).1
  obtain ⟨g1, g2⟩ := two_get _ _ _ hz
  exact ⟨by rw [World.ownsRow.cellAt h _ (by omega)]; exact g1, by rw [World.ownsRow.cellAt h _ (by omega)]; exact g2, World.ownsRow.frozenAt h _, World.ownsRow.frozenAt h _⟩
theorem wp_set (p : Int) (xs : List Int) (k : Nat) (x : Int) : (wp p xs).set k (p, x) = wp p (xs.set k x) := by simp [wp, List.map_set]
theorem trim_le (R : List Int) : (trimL R).length ≤ R.length := by rw [trimL_len]; exact trimN_le _ _
theorem take_trim (R : List Int) : R.take (trimL R).length = trimL R := by rw [trimL_len]; rfl
theorem mix_hi {α : Type} (xs ys : List α) (k : Nat) (hl : xs.length = ys.length) {i : Nat} (hi : k ≤ i) : (xs.take k ++ ys.drop k)[i]? = ys[i]? := by
  by_cases hk : k ≤ xs.length
  · rw [List.getElem?_append_right (by rw [List.length_take]; omega), List.length_take, List.getElem?_drop]
    congr 1
    omega
  · rw [List.getElem?_eq_none (by simp; omega), List.getElem?_eq_none (by omega)]
theorem addL_comm (p : Int) (f g : List Int) : addL p f g 1 = addL p g f 1 := by
  unfold addL addR addN
  rw [Nat.max_comm]
  congr 1
  apply List.map_congr_left
  intro k _
  rw [Int.one_mul, Int.one_mul, Int.add_comm]
set_option maxHeartbeats 2000000 in
theorem plus_any (p : Int) (A : Option Addr) (n c b : Nat) (f : List Int) (A' : Option Addr) (n' c' b' : Nat) (g : List Int) (w : World) (h : IT w A n c b p f) (h' : IT w A' n' c' b' p g) (hpr : primeB p = true) (hf : ∀ x ∈ f, numB p x = true) (hg : ∀ x ∈ g, numB p x = true) (hn : n ≤ 100000) (hn' : n' ≤ 100000) :
    Calls Try.prog 88 #[.slice A n c, .slice A' n' c'] w (MadeT p (addL p f g 1) w) := by
  have HL := Lib.hid h.len
  have H := Lib.hid h
  have hcap := h.capn
  have hbig := h.big
  have HL' := Lib.hid h'.len
  have H' := Lib.hid h'
  have hcap' := h'.capn
  have hbig' := h'.big
  by_cases hlt : n < n'
  · rw [show addL p f g 1 = addL p g f 1 from addL_comm p f g]
    clear h' h
    go_enter Try.func88, Try.ntmps88
    go_wp2_with (fail)
    refine (clone_any p A' n' c' b' g _ H'.out (by omega)).mono ?_
    rintro e w1 ⟨A1, c1, rfl, hO, hB⟩
    rw [HL'.out] at hO ⊢
    obtain ⟨R, hR⟩ : ∃ R, addR p g f 1 = R := ⟨_, rfl⟩
    have hRl : R.length = n' := by rw [← hR, addR_len, HL'.out, HL.out]; omega
    have HRG := Lib.hid (show ∀ k, k < n' → R[k]? = some (addN p g f 1 k) from fun k hk => by rw [← hR]; exact addR_get p g f 1 (by rw [HL'.out, HL.out]; omega))
    have HRL := Lib.hid hRl
    have HR := Lib.hid hR
    have HG := Lib.hid hg
    have HF := Lib.hid hf
    have hp := prime_ge hpr
    have HPR := Lib.hid hpr
    have HO := Lib.hid hO
    have hsz := hB.size
    clear hR hRl hg hf hpr hO
    go_wp2_with (fail)
    go_loopw [19] (fun i wr => ∃ k : Nat, k ≤ n ∧ i = .int .i64 k ∧ OT wr w.heap.size A1 n' c1 p (R.take k ++ g.drop k) ∧ Below w.heap.size w wr) (fun i _ => n - (intOf i).toNat)
    case atStart => exact ⟨0, by omega, rfl, by simpa using HO.out, hB⟩
    case round =>
      obtain ⟨k, hk, rfl, hown, hbel⟩ := hrel
      by_cases hkk : k < n
      · obtain rfl : A = some ⟨b, 0, none⟩ := by rcases H.out.adr with ⟨_, h1, _⟩ | h1 <;> first | omega | exact h1
        obtain ⟨y, hy, hyp, hyc⟩ := (H.out.below hbel).cell k hkk
        obtain ⟨x, hx⟩ : ∃ x, g[k]? = some x := ⟨_, List.getElem?_eq_getElem (by rw [HL'.out]; omega)⟩
        have hmx : (R.take k ++ g.drop k)[k]? = some x := by rw [mix_get _ _ _ (by rw [HRL.out, HL'.out]) (by rw [HRL.out]; omega), hx]
        obtain ⟨g1, hA1, hg1, hg2, hnc, hcc⟩ : ∃ f, A1 = some ⟨f, 0, none⟩ ∧ w.heap.size ≤ f ∧ f < wr.heap.size ∧ n' ≤ c1 ∧ c1 ≤ 9223372036854775807 := by
          rcases OZ.adr hown with ⟨_, h1, _⟩ | h1
          · omega
          · exact h1
        subst hA1
        obtain ⟨e1, e2, e3, e4⟩ := OZ.cells hown (wp_get (p := p) hmx)
        have hxv := HG.out x (List.mem_of_getElem? hx)
        have hyv := HF.out y (List.mem_of_getElem? hy)
        have hrk := HRG.out k (by omega)
        rw [show addN p g f 1 k = (x + y) % p by unfold addN; rw [getD_at hx, getD_at hy, Int.one_mul]] at hrk
        have HO2 := Lib.hid hown
        have HB2 := Lib.hid hbel
        have HV := Lib.hid (And.intro hxv hyv)
        have HRK := Lib.hid hrk
        have hs1 := hbel.size
        have hb' : b < wr.heap.size := cell_lt hyp
        have hbox := Below.refl wr.heap.size wr |>.alloc (Nat.le_refl _) (.cells #[.int .i64 p, .int .i64 y] 61)
        have q1 := (keep_of_below hbox).cell e1 (fun h' => h')
        have q2 := (keep_of_below hbox).cell e2 (fun h' => h')
        have q3 := ((keep_of_below hbox).frozen (p := ⟨g1, k * 2, none⟩) hg2 (fun h' => h')).trans e3
        have q4 := ((keep_of_below hbox).frozen (p := ⟨g1, k * 2 + 1, none⟩) hg2 (fun h' => h')).trans e4
        have Q := Lib.hid (And.intro q1 (And.intro q2 (And.intro q3 q4)))
        have hg2' : g1 < (wr.alloc (.cells #[.int .i64 p, .int .i64 y] 61)).heap.size := by simp; omega
        clear hown hbel hxv hyv hrk hmx hx hy q1 q2 q3 q4
        go_wp2_with (fail)
        go_region_with (go_at_call 92; refine (res_plus p x y _ HV.out.1 HV.out.2).mono ?_; rintro e w' ⟨rfl, hB⟩; have HBB := Lib.hid (show Below wr.heap.size wr w' from below_more hbox ⟨hB.os, hB.tape, hB.output, hB.size, hB.block⟩); have z1 := (keep_of_below hB).cell (p := ⟨g1, k * 2, none⟩) Q.out.1 (fun h' => h'); have z2 := (keep_of_below hB).cell (p := ⟨g1, k * 2 + 1, none⟩) Q.out.2.1 (fun h' => h'); have z3 := ((keep_of_below hB).frozen (p := ⟨g1, k * 2, none⟩) hg2' (fun h' => h')).trans Q.out.2.2.1; have z4 := ((keep_of_below hB).frozen (p := ⟨g1, k * 2 + 1, none⟩) hg2' (fun h' => h')).trans Q.out.2.2.2; clear hB)
        all_goals
          have hst := (OZ.below HO2.out HBB.out).put k p ((x + y) % p)
          rw [wp_set, set_step R g k _ (by rw [HRL.out, HL'.out]) HRK.out] at hst
          have HST := Lib.hid hst
          have HB3 := Lib.hid (((below_more HB2.out HBB.out).setCell (p := ⟨g1, k * 2, none⟩) hg1 (.int .i64 p)).setCell (p := ⟨g1, k * 2 + 1, none⟩) hg1 (.int .i64 ((x + y) % p)))
          clear hst z1 z2 z3 z4
          go_wp2_with (fail)
          go_roundw
          case rel => exact ⟨k + 1, by omega, by go_num, HST.out, HB3.out⟩
          case measure => simp [intOf]; omega
      · obtain rfl : k = n := by omega
        have e : R.take k ++ g.drop k = R := by
          apply List.ext_getElem?
          intro i
          by_cases hi : i < k
          · rw [List.getElem?_append_left (by rw [List.length_take, HRL.out]; omega), List.getElem?_take, if_pos hi]
          · by_cases hin : i < n'
            · rw [mix_hi _ _ _ (by rw [HRL.out, HL'.out]) (by omega), HRG.out i hin]
              obtain ⟨x, hx⟩ : ∃ x, g[i]? = some x := ⟨_, List.getElem?_eq_getElem (by rw [HL'.out]; omega)⟩
              have hxb := numB_bd (HG.out x (List.mem_of_getElem? hx))
              unfold addN
              rw [getD_at hx, getD_far (xs := f) (by rw [HL.out]; omega), hx, Int.mul_zero, Int.add_zero, Int.emod_eq_of_lt hxb.1 hxb.2.1]
            · rw [List.getElem?_eq_none (by simp [HRL.out, HL'.out]; omega), List.getElem?_eq_none (by rw [HRL.out]; omega)]
        rw [e] at hown
        obtain ⟨b1, hI⟩ := OT.it hown
        have HI := Lib.hid hI
        have HOW := Lib.hid hown
        have HBW := Lib.hid hbel
        have HAL := Lib.hid (show addL p g f 1 = trimL R by rw [← HR.out]; rfl)
        clear e hown hbel hI
        go_wp2_with (fail)
        refine (trimmed_any p A1 n' c1 b1 R _ HI.out).mono ?_
        rintro e w3 ⟨rfl, hB3⟩
        have hT := OT.take (OZ.below HOW.out hB3) (k := (trimL R).length) (by rw [← HRL.out]; exact trim_le R)
        have HT := Lib.hid (show OT w3 w.heap.size A1 (trimL R).length c1 p (trimL R) from by rw [show R.take (trimL R).length = trimL R from take_trim R] at hT; exact hT)
        have HB4 := Lib.hid (below_more HBW.out hB3)
        clear hT hB3
        go_wp2_with (fail)
        go_ret
        rw [HAL.out]
        exact ⟨_, _, rfl, HT.out, HB4.out⟩
  · clear h h'
    go_enter Try.func88, Try.ntmps88
    go_wp2_with (fail)
    refine (clone_any p A n c b f _ H.out (by omega)).mono ?_
    rintro e w1 ⟨A1, c1, rfl, hO, hB⟩
    rw [HL.out] at hO ⊢
    obtain ⟨R, hR⟩ : ∃ R, addR p f g 1 = R := ⟨_, rfl⟩
    have hRl : R.length = n := by rw [← hR, addR_len, HL.out, HL'.out]; omega
    have HRG := Lib.hid (show ∀ k, k < n → R[k]? = some (addN p f g 1 k) from fun k hk => by rw [← hR]; exact addR_get p f g 1 (by rw [HL.out, HL'.out]; omega))
    have HRL := Lib.hid hRl
    have HR := Lib.hid hR
    have HF := Lib.hid hf
    have HG := Lib.hid hg
    have hp := prime_ge hpr
    have HPR := Lib.hid hpr
    have HO := Lib.hid hO
    have hsz := hB.size
    clear hR hRl hf hg hpr hO
    go_wp2_with (fail)
    go_loopw [19] (fun i wr => ∃ k : Nat, k ≤ n' ∧ i = .int .i64 k ∧ OT wr w.heap.size A1 n c1 p (R.take k ++ f.drop k) ∧ Below w.heap.size w wr) (fun i _ => n' - (intOf i).toNat)
    case atStart => exact ⟨0, by omega, rfl, by simpa using HO.out, hB⟩
    case round =>
      obtain ⟨k, hk, rfl, hown, hbel⟩ := hrel
      by_cases hkk : k < n'
      · obtain rfl : A' = some ⟨b', 0, none⟩ := by rcases H'.out.adr with ⟨_, h1, _⟩ | h1 <;> first | omega | exact h1
        obtain ⟨y, hy, hyp, hyc⟩ := (H'.out.below hbel).cell k hkk
        obtain ⟨x, hx⟩ : ∃ x, f[k]? = some x := ⟨_, List.getElem?_eq_getElem (by rw [HL.out]; omega)⟩
        have hmx : (R.take k ++ f.drop k)[k]? = some x := by rw [mix_get _ _ _ (by rw [HRL.out, HL.out]) (by rw [HRL.out]; omega), hx]
        obtain ⟨g1, hA1, hg1, hg2, hnc, hcc⟩ : ∃ g, A1 = some ⟨g, 0, none⟩ ∧ w.heap.size ≤ g ∧ g < wr.heap.size ∧ n ≤ c1 ∧ c1 ≤ 9223372036854775807 := by
          rcases OZ.adr hown with ⟨_, h1, _⟩ | h1
          · omega
          · exact h1
        subst hA1
        obtain ⟨e1, e2, e3, e4⟩ := OZ.cells hown (wp_get (p := p) hmx)
        have hxv := HF.out x (List.mem_of_getElem? hx)
        have hyv := HG.out y (List.mem_of_getElem? hy)
        have hrk := HRG.out k (by omega)
        rw [show addN p f g 1 k = (x + y) % p by unfold addN; rw [getD_at hx, getD_at hy, Int.one_mul]] at hrk
        have HO2 := Lib.hid hown
        have HB2 := Lib.hid hbel
        have HV := Lib.hid (And.intro hxv hyv)
        have HRK := Lib.hid hrk
        have hs1 := hbel.size
        have hb' : b' < wr.heap.size := cell_lt hyp
        have hbox := Below.refl wr.heap.size wr |>.alloc (Nat.le_refl _) (.cells #[.int .i64 p, .int .i64 y] 61)
        have q1 := (keep_of_below hbox).cell e1 (fun h => h)
        have q2 := (keep_of_below hbox).cell e2 (fun h => h)
        have q3 := ((keep_of_below hbox).frozen (p := ⟨g1, k * 2, none⟩) hg2 (fun h => h)).trans e3
        have q4 := ((keep_of_below hbox).frozen (p := ⟨g1, k * 2 + 1, none⟩) hg2 (fun h => h)).trans e4
        have Q := Lib.hid (And.intro q1 (And.intro q2 (And.intro q3 q4)))
        have hg2' : g1 < (wr.alloc (.cells #[.int .i64 p, .int .i64 y] 61)).heap.size := by simp; omega
        clear hown hbel hxv hyv hrk hmx hx hy q1 q2 q3 q4
        go_wp2_with (fail)
        go_region_with (go_at_call 92; refine (res_plus p x y _ HV.out.1 HV.out.2).mono ?_; rintro e w' ⟨rfl, hB⟩; have HBB := Lib.hid (show Below wr.heap.size wr w' from below_more hbox ⟨hB.os, hB.tape, hB.output, hB.size, hB.block⟩); have z1 := (keep_of_below hB).cell (p := ⟨g1, k * 2, none⟩) Q.out.1 (fun h => h); have z2 := (keep_of_below hB).cell (p := ⟨g1, k * 2 + 1, none⟩) Q.out.2.1 (fun h => h); have z3 := ((keep_of_below hB).frozen (p := ⟨g1, k * 2, none⟩) hg2' (fun h => h)).trans Q.out.2.2.1; have z4 := ((keep_of_below hB).frozen (p := ⟨g1, k * 2 + 1, none⟩) hg2' (fun h => h)).trans Q.out.2.2.2; clear hB)
        all_goals
          have hst := (OZ.below HO2.out HBB.out).put k p ((x + y) % p)
          rw [wp_set, set_step R f k _ (by rw [HRL.out, HL.out]) HRK.out] at hst
          have HST := Lib.hid hst
          have HB3 := Lib.hid (((below_more HB2.out HBB.out).setCell (p := ⟨g1, k * 2, none⟩) hg1 (.int .i64 p)).setCell (p := ⟨g1, k * 2 + 1, none⟩) hg1 (.int .i64 ((x + y) % p)))
          clear hst z1 z2 z3 z4
          go_wp2_with (fail)
          go_roundw
          case rel => exact ⟨k + 1, by omega, by go_num, HST.out, HB3.out⟩
          case measure => simp [intOf]; omega
      · obtain rfl : k = n' := by omega
        have e : R.take k ++ f.drop k = R := by
          apply List.ext_getElem?
          intro i
          by_cases hi : i < k
          · rw [List.getElem?_append_left (by rw [List.length_take, HRL.out]; omega), List.getElem?_take, if_pos hi]
          · by_cases hin : i < n
            · rw [mix_hi _ _ _ (by rw [HRL.out, HL.out]) (by omega), HRG.out i hin]
              obtain ⟨x, hx⟩ : ∃ x, f[i]? = some x := ⟨_, List.getElem?_eq_getElem (by rw [HL.out]; omega)⟩
              have hxb := numB_bd (HF.out x (List.mem_of_getElem? hx))
              unfold addN
              rw [getD_at hx, getD_far (xs := g) (by rw [HL'.out]; omega), hx, Int.mul_zero, Int.add_zero, Int.emod_eq_of_lt hxb.1 hxb.2.1]
            · rw [List.getElem?_eq_none (by simp [HRL.out, HL.out]; omega), List.getElem?_eq_none (by rw [HRL.out]; omega)]
        rw [e] at hown
        obtain ⟨b1, hI⟩ := OT.it hown
        have HI := Lib.hid hI
        have HOW := Lib.hid hown
        have HBW := Lib.hid hbel
        have HAL := Lib.hid (show addL p f g 1 = trimL R by rw [← HR.out]; rfl)
        clear e hown hbel hI
        go_wp2_with (fail)
        refine (trimmed_any p A1 n c1 b1 R _ HI.out).mono ?_
        rintro e w3 ⟨rfl, hB3⟩
        have hT := OT.take (OZ.below HOW.out hB3) (k := (trimL R).length) (by rw [← HRL.out]; exact trim_le R)
        have HT := Lib.hid (show OT w3 w.heap.size A1 (trimL R).length c1 p (trimL R) from by rw [show R.take (trimL R).length = trimL R from take_trim R] at hT; exact hT)
        have HB4 := Lib.hid (below_more HBW.out hB3)
        clear hT hB3
        go_wp2_with (fail)
        go_ret
        rw [HAL.out]
        exact ⟨_, _, rfl, HT.out, HB4.out⟩
end Go.Proofs.Ytmmadmfpbancmab
