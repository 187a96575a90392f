/-
  The contracts of the model's l2Times and l2Series.
-/
import Derived.Test.YtghiaflnlobopaaPAdd
namespace Go.Proofs.Ytghiaflnlobopaa
open Go.RowKit
set_option maxHeartbeats 1000000 in
theorem specTms (p : Int) (A : Option Addr) (n c b o : Nat) (f : List Int) (A' : Option Addr) (n' c' b' o' : Nat) (g : List Int) (w : World) (h : IA w A n b o f) (h' : IA w A' n' b' o' g) (hpr : primeB p = true)
    (hf : ∀ x ∈ f, numB p x = true) (hg : ∀ x ∈ g, numB p x = true) (hn : n ≤ 100000) (hn' : n' ≤ 100000) :
    Calls Try.prog 39 #[.int .i64 p, .slice A n c, .slice A' n' c'] w (MadeI (convR p f g (tmsN f g)).length (convR p f g (tmsN f g)) w) := by
  have hp := prime_ge hpr
  have HL := Lib.hid h.len
  have HL' := Lib.hid h'.len
  have H := Lib.hid h
  have H' := Lib.hid h'
  have HF := Lib.hid hf
  have HG := Lib.hid hg
  clear h h' hf hg
  obtain ⟨N, hN⟩ : ∃ N, tmsN f g = N := ⟨_, rfl⟩
  have hz : (n = 0 ∨ n' = 0) ∧ N = 0 ∨ (0 < n ∧ 0 < n') ∧ N + 1 = n + n' := by
    have h1 := HL.out
    have h2 := HL'.out
    rw [← hN]
    unfold tmsN
    split
    · left; omega
    · right; omega
  rw [hN]
  clear hN
  obtain ⟨R, hR⟩ : ∃ R, convR p f g N = R := ⟨_, rfl⟩
  have hRl : R.length = N := by rw [← hR, convR_len]
  have HRG := Lib.hid (show ∀ k, k < N → R[k]? = some (conv f g k % p) from fun k hk => by rw [← hR]; exact convR_get p f g hk)
  have HR := Lib.hid hR
  have HRL := Lib.hid hRl
  clear hR hRl
  go_enter Try.func39, Try.ntmps39
  go_wp2_with (fail)
  go_loopw [7, 8] (fun v i wr => ∃ (k : Nat) (A1 : Option Addr) (c1 : Nat), k ≤ N ∧ i = .int .i64 k ∧ v = .slice A1 k c1 ∧ OI wr w.heap.size A1 k c1 (R.take k) ∧ Below w.heap.size w wr) (fun _ i _ => N - (intOf i).toNat)
  case atStart => exact ⟨0, _, _, by omega, rfl, rfl, OI.empty w, (Below.refl _ _).alloc (Nat.le_refl _) _⟩
  case round =>
    obtain ⟨k, A1, c1, hk, rfl, rfl, hown, hbel⟩ := hrel
    obtain ⟨wo, rfl⟩ : ∃ wo : World, wo = wr := ⟨_, rfl⟩
    have hs0 := hbel.size
    by_cases hlt : k < N
    · have HO := Lib.hid hown
      have HB := Lib.hid hbel
      clear hown hbel
      go_wp2_with (fail)
      go_loopw [9, 10] (fun s i wr => ∃ j : Nat, j ≤ k + 1 ∧ i = .int .i64 j ∧ s = .int .i64 (sigN j (fun q => f.getD q 0 * g.getD (k - q) 0)) ∧ Hid (∃ m, wr = wo.drewN m)) (fun _ i _ => k + 1 - (intOf i).toNat)
      case atStart => exact ⟨0, by omega, rfl, rfl, 0, rfl⟩
      case round =>
        obtain ⟨j, hj, rfl, rfl, hw⟩ := hrel
        have hbd := conv_bd HF.out HG.out k j
        obtain ⟨S, hS⟩ : ∃ S, sigN j (fun q => f.getD q 0 * g.getD (k - q) 0) = S := ⟨_, rfl⟩
        rw [hS] at hbd ⊢
        by_cases hjk : j < k + 1
        · have hst : sigN (j + 1) (fun q => f.getD q 0 * g.getD (k - q) 0) = S + f.getD j 0 * g.getD (k - j) 0 := by show sigN j _ + _ = _; rw [hS]
          have hcs : (j < n ∧ k - j < n') ∨ (j < n ∧ ¬ k - j < n') ∨ ¬ j < n := by omega
          rcases hcs with ⟨h1, h2⟩ | ⟨h1, h2⟩ | h1
          · obtain rfl := H.out.adr (by omega)
            obtain rfl := H'.out.adr (by omega)
            obtain ⟨x, hx, hxw⟩ := H.out.cell j h1
            obtain ⟨y, hy, hyw⟩ := H'.out.cell (k - j) h2
            have hBw := below_drawn HB.out hw.out
            have hxc := (keep_of_below hBw).cell hxw (fun h => h)
            have hyc := (keep_of_below hBw).cell hyw (fun h => h)
            rw [getD_at hx, getD_at hy] at hst
            have hxb := numB_bd (HF.out x (List.mem_of_getElem? hx))
            have hyb := numB_bd (HG.out y (List.mem_of_getElem? hy))
            have hmb := mul_bd hxb.1 (by omega) hyb.1 (by omega)
            have HST := Lib.hid hst
            have h3 : decide ((k : Int) - (j : Int) < (n' : Int)) = true := by simp; omega
            clear hst hx hy hxw hyw hBw hS
            go_wp2_with (fail)
            go_quiet (fail)
            go_wp2_with (fail)
            go_roundw
            case rel => exact ⟨j + 1, by omega, by go_num, by rw [HST.out], drewN_more hw.out _⟩
            case measure => simp [intOf]; omega
          · have HST := Lib.hid (show sigN (j + 1) (fun q => f.getD q 0 * g.getD (k - q) 0) = S by rw [hst, getD_far (xs := g) (by rw [HL'.out]; omega)]; simp)
            have h3 : decide ((k : Int) - (j : Int) < (n' : Int)) = false := by simp; omega
            clear hst hS
            go_wp2_with (fail)
            go_roundw
            case rel => exact ⟨j + 1, by omega, by go_num, by rw [HST.out], hw⟩
            case measure => simp [intOf]; omega
          · have HST := Lib.hid (show sigN (j + 1) (fun q => f.getD q 0 * g.getD (k - q) 0) = S by rw [hst, getD_far (xs := f) (by rw [HL.out]; omega)]; simp)
            clear hst hS
            go_wp2_with (fail)
            go_roundw
            case rel => exact ⟨j + 1, by omega, by go_num, by rw [HST.out], hw⟩
            case measure => simp [intOf]; omega
        · obtain rfl : j = k + 1 := by omega
          have hget := HRG.out k hlt
          rw [show conv f g k = S from hS] at hget
          obtain ⟨u, hu⟩ : ∃ u, S % p = u := ⟨_, rfl⟩
          rw [hu] at hget
          have HU := Lib.hid hu
          have HS := Lib.hid (take_snoc R k u hget)
          have HBI := Lib.hid (below_drawn (Below.refl wo.heap.size wo) hw.out)
          have hsi := HBI.out.size
          have HOD := Lib.hid (owns_below HO.out HBI.out)
          clear hget hS hu hw
          go_wp2_with (at_builtin; refine wpList_app_int rfl (.tmp 62) (.tmp 66) rfl w.heap.size A1 k c1 _ rfl (World.ownsRow.alloc HOD.out _) (S % p) _ _ rfl ?_ (by omega) ?_ ?_)
          · simp
          · simp; omega
          · intro A3 c3 w4 hI4 hK4
            rw [HU.out, HS.out] at hI4
            have HI4 := Lib.hid hI4
            have HB4 := Lib.hid (((HB.out.trans (HBI.out.mono hs0)).alloc (Nat.le_trans hs0 hsi) (.cells #[.int .i64 (S % p)] 3)).trans (hK4.below (B := w.heap.size) (by simp; omega) (fun q hq => (HO.out.lt q hq).1)))
            clear hI4 hK4
            go_wp2_with (fail)
            go_roundw
            case rel => exact ⟨k + 1, _, _, by omega, by go_num, rfl, HI4.out, HB4.out⟩
            case measure => simp [intOf]; omega
    · obtain rfl : k = N := by omega
      have e : R.take k = R := List.take_of_length_le (by rw [HRL.out]; exact Nat.le_refl _)
      rw [e] at hown
      have HO := Lib.hid hown
      clear e hown
      rcases hz with ⟨h0, h1⟩ | ⟨h0, h1⟩
      · obtain rfl : k = 0 := h1
        obtain rfl : R = [] := HR.out.symm
        clear hk hlt
        by_cases h3 : 1 < n + n'
        all_goals
          rcases h0 with h0 | h0
          all_goals
            first
              | omega
              | (subst h0; go_wp2_with (fail); go_ret; exact ⟨_, _, rfl, HO.out, hbel⟩)
      · have h3 : decide ((k : Int) + 1 < (n : Int) + (n' : Int)) = false := by simp; omega
        go_wp2_with (fail)
        go_ret
        rw [HR.out, HRL.out]
        exact ⟨_, _, rfl, HO.out, hbel⟩
end Go.Proofs.Ytghiaflnlobopaa
