/-
  The walk of the law of SeriesValid.
-/
import Derived.Test.YtmmadmfpbancmaaVal
import Derived.Test.YtmmadmfpbancmaaDrawQ
import Derived.Test.YtmmadmfpbancmaaSame
namespace Go.Proofs.Ytmmadmfpbancmaa
open Go.RowKit
theorem serB_take' {p : Int} {s : List Int} (h : serB p s = true) (n : Nat) : serB p (s.take n) = true := by
  obtain ⟨h1, h2, h3⟩ := serB_true h
  exact serB_mk h1 (by rw [List.length_take]; omega) (fun x hx => h3 x (List.mem_of_mem_take hx))
set_option maxRecDepth 100000 in
set_option maxHeartbeats 600000 in
theorem walkFnSeriesValid (a : Option Addr) (len cap : Nat) (zs : List Int) (w : World) (h : IsRow .u8 w a len cap zs) :
    Calls Try.prog 5 #[.slice a len cap] w fun e w' => e = .returned (.bool true) ∧ Below w.heap.size w w' := by
  have hm : len ≤ 9223372036854775807 := by have := rowBytes h; unfold maxLen at this; omega
  by_cases hb : 1048576 < len
  · go_enter Try.func5, Try.ntmps5
    go_wp2_with (fail)
    go_ret
    exact ⟨rfl, Below.refl _ _⟩
  have hd0 : decide (1048576 < (len : Int)) = false := by simp; omega
  go_enter Try.func5, Try.ntmps5
  go_wp2_with (fail)
  refine (drawSeriesValid a len cap zs w h).mono ?_
  rintro e w1 ⟨p, Aa, ca, s, rfl, hp0, hp1, hsl, hO, hB⟩
  obtain ⟨ba, hRa, hAa⟩ := OI.iaA hO
  have hcapa := OI.capLe hO
  obtain ⟨n, hn⟩ : ∃ n, s.length = n := ⟨_, rfl⟩
  rw [hn] at hRa hsl hcapa ⊢
  have HS := Lib.hid hRa
  have HN := Lib.hid hn
  clear hRa hO h hn hp0 hp1 hAa
  rcases hv : serB p s
  · have HV := Lib.hid hv
    clear hv
    go_wp2_with (fail)
    refine (implSeriesValid p Aa n ca ba 0 s _ HS.out).mono ?_
    rintro e w_1 ⟨rfl, rfl⟩
    rw [HV.out]
    go_wp2_with (fail)
    refine (specSeriesValid p Aa n ca ba 0 s _ HS.out).mono ?_
    rintro e w_2 ⟨rfl, rfl⟩
    rw [HV.out]
    go_wp2_with (fail)
    refine (alive _).mono ?_
    rintro e w_3 ⟨rfl, rfl⟩
    go_wp2_with (fail)
    go_ret
    exact ⟨rfl, hB⟩
  · by_cases hn0 : n = 0
    · have HV := Lib.hid hv
      subst hn0
      clear hv
      go_wp2_with (fail)
      refine (implSeriesValid p Aa 0 ca ba 0 s _ HS.out).mono ?_
      rintro e w_1 ⟨rfl, rfl⟩
      rw [HV.out]
      go_wp2_with (fail)
      refine (specSeriesValid p Aa 0 ca ba 0 s _ HS.out).mono ?_
      rintro e w_2 ⟨rfl, rfl⟩
      rw [HV.out]
      go_wp2_with (fail)
      refine (alive _).mono ?_
      rintro e w_3 ⟨rfl, rfl⟩
      go_wp2_with (fail)
      go_ret
      exact ⟨rfl, hB⟩
    · have HV := Lib.hid hv
      have HV2 := Lib.hid (serB_take' hv (n - 1))
      have hn1 : ((n : Int) - 1).toNat = n - 1 := by omega
      have hnz : ((n : Int) == 0) = false := by simpa using hn0
      clear hv
      go_wp2_with (fail)
      refine (implSeriesValid p Aa n ca ba 0 s _ HS.out).mono ?_
      rintro e w_1 ⟨rfl, rfl⟩
      rw [HV.out]
      go_wp2_with (fail)
      refine (specSeriesValid p Aa n ca ba 0 s _ HS.out).mono ?_
      rintro e w_2 ⟨rfl, rfl⟩
      rw [HV.out]
      obtain rfl := HS.out.adr (by omega)
      go_wp2_with (fail)
      refine (implSeriesValid p _ (n - 1) ca ba 0 (s.take (n - 1)) _ (HS.out.take (by omega))).mono ?_
      rintro e w_3 ⟨rfl, rfl⟩
      rw [HV2.out]
      go_wp2_with (fail)
      refine (alive _).mono ?_
      rintro e w_4 ⟨rfl, rfl⟩
      go_wp2_with (fail)
      go_ret
      exact ⟨rfl, hB⟩
end Go.Proofs.Ytmmadmfpbancmaa
