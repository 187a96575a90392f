/-
  The contracts of firstOfProduct and times.
-/
import Derived.Test.YtmmadmfpbancmabPr
namespace Go.Proofs.Ytmmadmfpbancmab
open Go.RowKit
set_option maxHeartbeats 1000000 in
theorem firstOf_any (p : Int) (A : Option Addr) (n c b : Nat) (f : List Int) (A' : Option Addr) (n' c' b' : Nat) (g : List Int) (N : Nat) (w : World) (h : IT w A n c b p f) (h' : IT w A' n' c' b' p g) (hf : ∀ x ∈ f, numB p x = true) (hg : ∀ x ∈ g, numB p x = true)
    (hn : n ≤ 100000) (hn' : n' ≤ 100000) (hN : 0 < N → 0 < n ∧ 0 < n' ∧ N + 1 ≤ n + n') (hNb : N ≤ 1000000) :
    Calls Try.prog 53 #[.slice A n c, .slice A' n' c', .int .i64 N] w (MadeT p (convR p f g N) w) := by
  have H := Lib.hid h
  have H' := Lib.hid h'
  have HF := Lib.hid hf
  have HG := Lib.hid hg
  obtain ⟨R, hR⟩ : ∃ R, convR p f g N = R := ⟨_, rfl⟩
  have hRl : R.length = N := by rw [← hR, convR_len]
  have HRG := Lib.hid (show ∀ k, k < N → R[k]? = some (conv f g k % p) from fun k hk => by rw [← hR]; exact convR_get p f g hk)
  have HR := Lib.hid hR
  have HRL := Lib.hid hRl
  have HN := Lib.hid hN
  have hmk := run_make_two (P := Try.prog) 57 61 (.int .i64 0) (.int .i64 0) 16 Try.underlying57 infoRes .i64 .i64 N (by omega) (by omega)
  clear h h' hf hg hR hRl hN
  go_enter Try.func53, Try.ntmps53
  go_wp2_with (fail)
  go_loopw [13] (fun i wr => ∃ k : Nat, k ≤ N ∧ i = .int .i64 k ∧ OZ wr w.heap.size (some ⟨w.heap.size, 0, none⟩) N N ((wp p R).take k ++ List.replicate (N - k) (0, 0)) ∧ Below w.heap.size w wr) (fun i _ => N - (intOf i).toNat)
  case atStart => exact ⟨0, by omega, rfl, by simpa using made_two w N (by omega), (Below.refl _ _).alloc (Nat.le_refl _) _⟩
  case round =>
    obtain ⟨k, hk, rfl, hown, hbel⟩ := hrel
    by_cases hlt : k < N
    · obtain ⟨h1, h2, h3⟩ := HN.out (by omega)
      have hlz := OZ.len hown
      obtain ⟨z, hz⟩ : ∃ z, ((wp p R).take k ++ List.replicate (N - k) (0, 0))[k]? = some z := ⟨_, List.getElem?_eq_getElem (by omega)⟩
      obtain ⟨e1, e2, e3, e4⟩ := OZ.cells hown hz
      have hwr := (hown.lt w.heap.size rfl).2
      have HO := Lib.hid hown
      have HB := Lib.hid hbel
      clear hown hbel hlz hz
      go_wp2_with (fail)
      refine (productAt_any p A n c b f A' n' c' b' g k _ (H.out.below HB.out) (H'.out.below HB.out) HF.out HG.out hn hn' (by omega) h1 h2).mono ?_
      rintro e w2 ⟨rfl, hB2⟩
      have x1 := (keep_of_below hB2).cell e1 (fun h => h)
      have x2 := (keep_of_below hB2).cell e2 (fun h => h)
      have x3 := ((keep_of_below hB2).frozen (p := ⟨w.heap.size, k * 2, none⟩) hwr (fun h => h)).trans e3
      have x4 := ((keep_of_below hB2).frozen (p := ⟨w.heap.size, k * 2 + 1, none⟩) hwr (fun h => h)).trans e4
      have hst := (OZ.below HO.out hB2).put k p (conv f g k % p)
      rw [two_mix (by rw [wp_len, HRL.out]) (wp_get (HRG.out k hlt))] at hst
      have HST := Lib.hid hst
      have HB3 := Lib.hid (((below_more HB.out hB2).setCell (p := ⟨w.heap.size, k * 2, none⟩) (Nat.le_refl _) (.int .i64 p)).setCell (p := ⟨w.heap.size, k * 2 + 1, none⟩) (Nat.le_refl _) (.int .i64 (conv f g k % p)))
      clear hst hB2 e1 e2 e3 e4
      go_wp2_with (fail)
      go_roundw
      case rel => exact ⟨k + 1, by omega, by go_num, HST.out, HB3.out⟩
      case measure => simp [intOf]; omega
    · have e : (wp p R).take k ++ List.replicate (N - k) (0, 0) = wp p R := by
        rw [show N - k = 0 by omega, List.take_of_length_le (by rw [wp_len, HRL.out]; omega)]; simp
      rw [e] at hown
      have HO := Lib.hid hown
      clear e hown
      go_wp2_with (fail)
      go_ret
      rw [HR.out]
      exact ⟨_, _, by rw [HRL.out]; rfl, by rw [HRL.out]; exact HO.out, hbel⟩
theorem terms_isZero (A : Option Addr) (n c : Nat) (w : World) :
    Calls Try.prog 67 #[.slice A n c] w fun e w' => e = .returned (.bool (decide (n = 0))) ∧ w = w' := by
  by_cases h : n = 0
  · subst h
    go_enter Try.func67, Try.ntmps67
    go_wp2_with (fail)
    go_ret
    exact ⟨rfl, rfl⟩
  · have h2 : ((n : Int) == 0) = false := by simpa using h
    have h3 : decide (n = 0) = false := decide_eq_false h
    go_enter Try.func67, Try.ntmps67
    go_wp2_with (fail)
    go_ret
    exact ⟨ret_bool h3.symm, rfl⟩
set_option maxHeartbeats 1000000 in
theorem times_any (p : Int) (A : Option Addr) (n c b : Nat) (f : List Int) (A' : Option Addr) (n' c' b' : Nat) (g : List Int) (w : World) (h : IT w A n c b p f) (h' : IT w A' n' c' b' p g) (hf : ∀ x ∈ f, numB p x = true) (hg : ∀ x ∈ g, numB p x = true)
    (hn : n ≤ 100000) (hn' : n' ≤ 100000) :
    Calls Try.prog 48 #[.slice A n c, .slice A' n' c'] w (MadeT p (trimL (tmsL p f g)) w) := by
  have hl := h.len
  have hl' := h'.len
  have H := Lib.hid h
  have H' := Lib.hid h'
  have HF := Lib.hid hf
  have HG := Lib.hid hg
  clear h h' hf hg
  by_cases h0 : n = 0
  · subst h0
    have HR := Lib.hid (show trimL (tmsL p f g) = [] by unfold tmsL; rw [show tmsN f g = 0 by unfold tmsN; rw [if_pos (by omega)]]; rfl)
    go_enter Try.func48, Try.ntmps48
    go_wp2_with (fail)
    refine (terms_isZero A 0 c _).mono ?_
    rintro e w1 ⟨rfl, rfl⟩
    rw [show decide ((0 : Nat) = 0) = true from rfl]
    go_wp2_with (fail)
    go_ret
    rw [HR.out]
    exact ⟨none, 0, rfl, World.ownsRow_nil _ _ _ _, Below.refl _ _⟩
  by_cases h0' : n' = 0
  · have hd : decide (n = 0) = false := decide_eq_false h0
    subst h0'
    have HR := Lib.hid (show trimL (tmsL p f g) = [] by unfold tmsL; rw [show tmsN f g = 0 by unfold tmsN; rw [if_pos (by omega)]]; rfl)
    go_enter Try.func48, Try.ntmps48
    go_wp2_with (fail)
    refine (terms_isZero A n c _).mono ?_
    rintro e w1 ⟨rfl, rfl⟩
    rw [hd]
    go_wp2_with (fail)
    refine (terms_isZero A' 0 c' _).mono ?_
    rintro e w1 ⟨rfl, rfl⟩
    rw [show decide ((0 : Nat) = 0) = true from rfl]
    go_wp2_with (fail)
    go_ret
    rw [HR.out]
    exact ⟨none, 0, rfl, World.ownsRow_nil _ _ _ _, Below.refl _ _⟩
  · have hd : decide (n = 0) = false := decide_eq_false h0
    have hd' : decide (n' = 0) = false := decide_eq_false h0'
    obtain ⟨N, hN⟩ : ∃ N, tmsN f g = N := ⟨_, rfl⟩
    have hNn : N + 1 = n + n' := by rw [← hN]; unfold tmsN; rw [if_neg (by omega)]; omega
    have HT := Lib.hid (show tmsL p f g = convR p f g N by unfold tmsL; rw [hN])
    have hNi : (n : Int) + (n' : Int) - 1 = (N : Int) := by omega
    clear hN
    go_enter Try.func48, Try.ntmps48
    go_wp2_with (fail)
    refine (terms_isZero A n c _).mono ?_
    rintro e w1 ⟨rfl, rfl⟩
    rw [hd]
    go_wp2_with (fail)
    refine (terms_isZero A' n' c' _).mono ?_
    rintro e w1 ⟨rfl, rfl⟩
    rw [hd']
    go_wp2_with (fail)
    refine (firstOf_any p A n c b f A' n' c' b' g N _ H.out H'.out HF.out HG.out hn hn' (fun _ => by omega) (by omega)).mono ?_
    rintro e w3 ⟨A3, c3, rfl, hO3, hB3⟩
    rw [← HT.out] at hO3 ⊢
    obtain ⟨L, hL⟩ : ∃ L, tmsL p f g = L := ⟨_, rfl⟩
    rw [hL] at hO3 ⊢
    obtain ⟨b3, hI3⟩ := OT.it hO3
    have HI3 := Lib.hid hI3
    have HO3 := Lib.hid hO3
    have HB3 := Lib.hid hB3
    have HLQ := Lib.hid hL
    clear hO3 hI3 hB3 hL HT
    go_wp2_with (fail)
    refine (trimmed_any p A3 L.length c3 b3 L _ HI3.out).mono ?_
    rintro e w4 ⟨rfl, hB4⟩
    have hT := OT.take (OZ.below HO3.out hB4) (k := (trimL L).length) (trim_le L)
    rw [take_trim L] at hT
    have HT := Lib.hid hT
    have HB4 := Lib.hid (below_more HB3.out hB4)
    clear hT hB4
    go_wp2_with (fail)
    go_ret
    rw [HLQ.out]
    exact ⟨_, _, rfl, HT.out, HB4.out⟩
end Go.Proofs.Ytmmadmfpbancmab
