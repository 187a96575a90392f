/-
  The contract of the model's MatValid.
-/
import Derived.Test.YtecmclaockmgeaaDoorMatV
namespace Go.Proofs.YtecmclaockmgeaaDoor
open Go.RowKit
def rowS (p : Int) (l : Nat) (row : List Int) : Bool := decide (row.length = l) && (inB row.length 1 8 && rowB p row)
theorem rowS_ok {p : Int} {l : Nat} {row : List Int} (hl : 1 ≤ l ∧ l ≤ 8) : rowS p l row = rowOk p l row := by
  unfold rowS rowOk
  by_cases h : row.length = l
  · have : inB (row.length : Int) 1 8 = true := by unfold inB; simp; omega
    rw [this]; simp
  · simp [h]
theorem matB_rowS {p : Int} {M : List (List Int)} {row0 row : List Int} {k : Nat} (h0 : M[0]? = some row0) (hk : M[k]? = some row) (hf : rowS p row0.length row = false) : matB p M = false := by
  by_cases hs : 1 ≤ M.length ∧ M.length ≤ 8 ∧ 1 ≤ (M.headD []).length ∧ (M.headD []).length ≤ 8
  · rw [matB_of hs]
    have hh := headD_of h0
    rw [hh] at hs ⊢
    exact all_fail _ _ _ _ hk (by rw [← rowS_ok ⟨hs.2.2.1, hs.2.2.2⟩]; exact hf)
  · exact matB_size hs
theorem matB_all {p : Int} {M : List (List Int)} {row0 : List Int} {n : Nat} (h0 : M[0]? = some row0) (hn : M.length = n) (ha : M.all (rowS p row0.length) = true) : (primeB p && inB n 1 8) = matB p M := by
  have hh := headD_of h0
  have hm : row0 ∈ M := List.mem_of_getElem? h0
  have hr := List.all_eq_true.1 ha row0 hm
  simp only [rowS, Bool.and_eq_true, decide_eq_true_eq, true_and, rowB, List.all_eq_true] at hr
  obtain ⟨hl, hv⟩ := hr
  simp only [inB, Bool.and_eq_true, decide_eq_true_eq] at hl
  have hne : row0 ≠ [] := by rintro rfl; simp at hl
  obtain ⟨x, hx⟩ := List.exists_mem_of_ne_nil _ hne
  have hp := (numB_true (hv x hx)).1
  have h1 : 1 ≤ M.length := by
    have := (List.getElem?_eq_some_iff.1 h0).1; omega
  by_cases h8 : M.length ≤ 8
  · rw [matB_of (by rw [hh]; omega), hh, hp]
    have e : M.all (rowOk p row0.length) = true := by
      rw [List.all_eq_true] at ha ⊢
      intro r hr; rw [← rowS_ok (by omega)]; exact ha r hr
    rw [e]; simp [inB]; omega
  · rw [matB_size (by omega)]; simp [inB]; omega
theorem specIn' {n l h : Int} {t : Bool} (e : inB n l h = t) (w : World) :
    Calls Tryd.prog 34 #[.int .i64 n, .int .i64 l, .int .i64 h] w fun e w' => e = .returned (.bool t) ∧ w = w' := by subst e; exact specIn n l h w
theorem quiet_same {P : Program} {f : FuncId} {args : Array Value} {w : World} {n : Nat} {v : Value} (h : Calls P f args (w.drewN n) fun e w' => e = .returned v ∧ w.drewN n = w') :
    Calls P f args (w.drewN n) fun e w'' => e = .returned v ∧ ∃ m, w'' = w.drewN m := h.mono fun _ _ ⟨he, hw⟩ => ⟨he, n, hw.symm⟩
theorem RA.drewN {w : World} {A : Option Addr} {n b o : Nat} {M : List (List Int)} (h : RA w A n b o M) {w' : World} (hw : ∃ m, w' = w.drewN m) : RA w' A n b o M := by
  obtain ⟨m, rfl⟩ := hw; exact h.keep (drewN_keep (S := fun _ => False) w m) (fun _ _ h => h)
theorem drewN_more {w w' : World} (hw : ∃ m, w' = w.drewN m) (k : Nat) : ∃ m, w'.drewN k = w.drewN m := by obtain ⟨m, rfl⟩ := hw; exact ⟨m + k, by rw [World.drewN_drewN]⟩
theorem specMatValid (p : Int) (A : Option Addr) (n c b o : Nat) (M : List (List Int)) (w : World) (h : RA w A n b o M) :
    Calls Tryd.prog 32 #[.int .i64 p, .slice A n c] w fun e w' => e = .returned (.bool (matB p M)) ∧ ∃ m, w' = w.drewN m := by
  have hbig := h.big
  have hlen := h.len
  by_cases h1 : n < 1
  · have hf : matB p M = false := matB_size (by omega)
    have HF := Lib.hid hf
    have hi : inB (n : Int) 1 8 = false := by unfold inB; simp; omega
    have HI := Lib.hid hi
    clear h hf hlen hi
    go_enter Tryd.func32, Tryd.ntmps32
    go_wp2_with (fail)
    refine wp_loop_rounds 1 ?_
    rw [rounds_succ]
    rcases hp : primeB p
    all_goals
      have HP := Lib.hid hp
      clear hp
      go_wp2_with (first | (go_at_call 54; refine (specPrimeOk _ _).mono ?_; rintro e w' ⟨rfl, rfl⟩; rw [HP.out]) | (go_at_call 34; refine (specIn _ _ _ _).mono ?_; rintro e w' ⟨rfl, rfl⟩; rw [HI.out]))
      go_ret
      exact ⟨ret_bool HF.out.symm, 0, rfl⟩
  · obtain ⟨row0, A0, c0, b0, o0, hr0, hc0, hI0⟩ := h.row 0 (by omega)
    obtain rfl := h.adr (by omega)
    have hbig0 := hI0.big
    simp only [Nat.add_zero] at hc0
    have HR0 := Lib.hid hr0
    have HL := Lib.hid hlen
    have H := Lib.hid h
    clear h hlen hr0 hI0
    go_enter Tryd.func32, Tryd.ntmps32
    go_wp2_with (fail)
    go_loopw [5, 6] (fun i _ wr => ∃ k : Nat, k ≤ n ∧ i = .int .i64 k ∧ Hid ((M.take k).all (rowS p row0.length) = true) ∧ Hid (∃ m, wr = w.drewN m)) (fun i _ _ => n - (intOf i).toNat)
    case atStart => exact ⟨0, by omega, rfl, by simp [Hid], 0, rfl⟩
    case round =>
      obtain ⟨k, hk, rfl, hall, hw⟩ := hrel
      by_cases hlt : k < n
      · have Hr := H.out.drewN hw.out
        obtain ⟨row', A', c', b', o', hr', hc00, hI'⟩ := Hr.row 0 (by omega)
        obtain rfl : row' = row0 := by rw [HR0.out] at hr'; exact (Option.some.inj hr').symm
        obtain ⟨row, A1, c1, b1, o1, hr, hc, hI⟩ := Hr.row k hlt
        simp only [Nat.add_zero] at hc00
        have hbig1 := hI.big
        have HI := Lib.hid hI
        have HR := Lib.hid hr
        clear hI hr Hr hr' hI' hc0
        have hq : (((row.length : Int) != (row'.length : Int)) = false ∧ rowS p row'.length row = (inB row.length 1 8 && rowB p row)) ∨ (((row.length : Int) != (row'.length : Int)) = true ∧ rowS p row'.length row = false) := by
          by_cases hl : row.length = row'.length
          · exact .inl ⟨eqInt hl, by simp [rowS, hl]⟩
          · exact .inr ⟨neInt hl, by simp [rowS, hl]⟩
        rcases hq with ⟨hq, hS⟩ | ⟨hq, hS⟩
        · rcases hv : inB row.length 1 8
          · have HV := Lib.hid hv
            have HS := Lib.hid (hS.trans (by rw [hv]))
            clear hv hS
            go_wp2_with (fail)
            refine wp_region_quiet_lit (by kernel_rfl) (by kernel_rfl) ?_
            repeat (go_big_quiet_step ((go_at_call 34; exact quiet_same (specIn' HV.out _))))
            refine wpQuiet_nil ?_
            intro _ hw'
            obtain ⟨nq, hw''⟩ := hw'
            subst hw''
            go_wp2_with (fail)
            go_ret
            exact ⟨ret_bool (matB_rowS HR0.out HR.out HS.out).symm, drewN_more hw.out _⟩
          · have HV := Lib.hid hv
            have HS := Lib.hid (hS.trans (by rw [hv]))
            clear hv hS
            go_wp2_with (fail)
            refine wp_region_quiet_lit (by kernel_rfl) (by kernel_rfl) ?_
            repeat (go_big_quiet_step ((go_at_call 34; exact quiet_same (specIn' HV.out _))))
            refine wpQuiet_nil ?_
            intro _ hw'
            obtain ⟨nq, hw''⟩ := hw'
            subst hw''
            go_wp2_with (fail)
            go_loop [6] (fun i => ∃ q : Nat, q ≤ row.length ∧ i = .int .i64 q ∧ Hid ((row.take q).all (numB p) = true)) (fun i => row.length - (intOf i).toNat)
            case atStart => exact ⟨0, by omega, rfl, by simp [Hid]⟩
            case round =>
              obtain ⟨q, hq, rfl, hin⟩ := hrel
              by_cases hlq : q < row.length
              · obtain rfl := HI.out.adr (by omega)
                obtain ⟨x, hx, hxc⟩ := HI.out.cell q hlq
                have HX := Lib.hid hx
                clear hx
                rcases hnv : numB p x
                · have HNV := Lib.hid hnv
                  clear hnv
                  go_wp2_with (go_at_call 53; refine (specNumValid _ _ _).mono ?_; rintro e w' ⟨rfl, rfl⟩; rw [HNV.out])
                  go_ret
                  exact ⟨ret_bool (matB_rowS HR0.out HR.out (by rw [HS.out]; exact all_fail _ _ _ _ HX.out HNV.out)).symm, drewN_more hw.out _⟩
                · have HNV := Lib.hid hnv
                  clear hnv
                  go_wp2_with (go_at_call 53; refine (specNumValid _ _ _).mono ?_; rintro e w' ⟨rfl, rfl⟩; rw [HNV.out])
                  go_round
                  case rel => exact ⟨q + 1, by omega, by go_num, by unfold Hid; rw [all_take _ _ _ _ HX.out, HNV.out, hin.out]; rfl⟩
                  case measure => simp [intOf]; omega
              · have HRB := Lib.hid (show rowS p row'.length row = true by rw [HS.out]; exact all_done _ _ q (by omega) hin.out)
                go_wp2_with (fail)
                go_roundw
                case rel => exact ⟨k + 1, by omega, by go_num, by unfold Hid; rw [all_take _ _ _ _ HR.out, HRB.out, hall.out]; rfl, drewN_more hw.out _⟩
                case measure => simp [intOf]; omega
        · have HS := Lib.hid hS
          clear hS
          go_wp2_with (fail)
          refine wp_region_quiet_lit (by kernel_rfl) (by kernel_rfl) ?_
          repeat (go_big_quiet_step (fail))
          refine wpQuiet_nil ?_
          intro _ hw'
          obtain ⟨nq, hw''⟩ := hw'
          subst hw''
          go_wp2_with (fail)
          go_ret
          exact ⟨ret_bool (matB_rowS HR0.out HR.out HS.out).symm, drewN_more hw.out _⟩
      · have HA := Lib.hid (matB_all (p := p) HR0.out HL.out (all_done _ _ k (by rw [HL.out]; omega) hall.out))
        rcases hp : primeB p <;> rcases hi : inB n 1 8
        all_goals
          have HP := Lib.hid hp
          have HI := Lib.hid hi
          clear hp hi
          go_wp2_with (first | (go_at_call 54; refine (specPrimeOk _ _).mono ?_; rintro e w' ⟨rfl, rfl⟩; rw [HP.out]) | (go_at_call 34; refine (specIn _ _ _ _).mono ?_; rintro e w' ⟨rfl, rfl⟩; rw [HI.out]))
          go_ret
          exact ⟨ret_bool (by rw [← HA.out, HP.out, HI.out]; rfl), hw.out⟩
end Go.Proofs.YtecmclaockmgeaaDoor
