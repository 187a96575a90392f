/-
  The walk of the law of PolyValid.
-/
import Derived.Test.YtmmadmfpbancmaaVal
import Derived.Test.YtmmadmfpbancmaaDrawQ
import Derived.Test.YtmmadmfpbancmaaSame
import Derived.Test.YtmmadmfpbancmaaApG
import Derived.Test.YtmmadmfpbancmaaWSeriesValid
namespace Go.Proofs.Ytmmadmfpbancmaa
open Go.RowKit
theorem polB_zero {p : Int} {f : List Int} : polB p (f ++ [0]) = false := by
  rcases h : polB p (f ++ [0])
  · rfl
  · rcases polB_last h with h1 | h1
    · simp at h1
    · exfalso; apply h1; simp
theorem polB_none (p : Int) : polB p [] = primeB p := by
  unfold polB serB rowB
  simp
theorem serB_pol {p : Int} {f : List Int} (h : polB p f = true) : serB p f = true := polB_ser h
set_option maxRecDepth 100000 in
set_option maxHeartbeats 600000 in
theorem walkFnPolyValid (a : Option Addr) (len cap : Nat) (zs : List Int) (w : World) (h : IsRow .u8 w a len cap zs) :
    Calls Try.prog 3 #[.slice a len cap] w fun e w' => e = .returned (.bool true) ∧ Below w.heap.size w w' := by
  have hm : len ≤ 9223372036854775807 := by have := rowBytes h; unfold maxLen at this; omega
  by_cases hb : 1048576 < len
  · go_enter Try.func3, Try.ntmps3
    go_wp2_with (fail)
    go_ret
    exact ⟨rfl, Below.refl _ _⟩
  have hd0 : decide (1048576 < (len : Int)) = false := by simp; omega
  go_enter Try.func3, Try.ntmps3
  go_wp2_with (fail)
  refine (drawPolyValid a len cap zs w h).mono ?_
  rintro e w1 ⟨p, Aa, ca, s, rfl, hp0, hp1, hsl, hO, hB⟩
  obtain ⟨ba, hRa, hAa⟩ := OI.iaA hO
  have hcapa := OI.capLe hO
  obtain ⟨n, hn⟩ : ∃ n, s.length = n := ⟨_, rfl⟩
  rw [hn] at hRa hsl hcapa ⊢
  have HS := Lib.hid hRa
  have HN := Lib.hid hn
  clear hRa hO h hn hp0 hp1 hAa
  have HNIL := Lib.hid (polB_none p)
  have HZ := Lib.hid (polB_zero (p := p) (f := s))
  have hq : (primeB p != primeB p) = false := by cases primeB p <;> rfl
  have hq2 : (primeB p == primeB p) = true := by cases primeB p <;> rfl
  obtain ⟨PB, hPB⟩ : ∃ PB, primeB p = PB := ⟨_, rfl⟩
  have HPB := Lib.hid hPB
  rw [hPB] at hq hq2
  rw [hPB] at HNIL
  clear hPB
  have hie : ∀ wx : World, IA wx none 0 0 0 [] := fun wx => ⟨rfl, fun h0 => by omega, by omega, fun i hi => by omega⟩
  have HIE := Lib.hid hie
  clear hie
  rcases hv : polB p s
  · have HV := Lib.hid hv
    clear hv
    go_wp2_with (fail)
    refine (implPolyValid p Aa n ca ba 0 s _ HS.out).mono ?_
    rintro e w_1 ⟨rfl, rfl⟩
    rw [HV.out]
    go_wp2_with (fail)
    refine (specPolyValid p Aa n ca ba 0 s _ HS.out).mono ?_
    rintro e w_2 ⟨rfl, hm_2⟩
    rw [HV.out]
    have HS_2 := Lib.hid (HS.out.drewN hm_2)
    have hK_2 := below_drawn hB hm_2
    clear hm_2
    go_wp2_with (fail)
    refine (implPolyValid p none 0 0 0 0 [] _ (HIE.out _)).mono ?_
    rintro e w_3 ⟨rfl, rfl⟩
    rw [HNIL.out]
    go_wp2_with (fail)
    refine (implPrimeOk p _).mono ?_
    rintro e w_4 ⟨rfl, rfl⟩
    rw [HPB.out]
    go_wp2_with (fail)
    refine (alive _).mono ?_
    rintro e w_5 ⟨rfl, rfl⟩
    go_wp2_with (fail)
    go_ret
    exact ⟨rfl, hK_2⟩
  · have HV := Lib.hid hv
    have HV2 := Lib.hid (serB_pol hv)
    clear hv
    go_wp2_with (fail)
    refine (implPolyValid p Aa n ca ba 0 s _ HS.out).mono ?_
    rintro e w_1 ⟨rfl, rfl⟩
    rw [HV.out]
    go_wp2_with (fail)
    refine (specPolyValid p Aa n ca ba 0 s _ HS.out).mono ?_
    rintro e w_2 ⟨rfl, hm_2⟩
    rw [HV.out]
    have HS_2 := Lib.hid (HS.out.drewN hm_2)
    have hK_2 := below_drawn hB hm_2
    clear hm_2
    go_wp2_with (at_builtin; refine wpList_app_anyG (by rfl) (.tmp 26) (.tmp 27) rfl rfl Aa n ca ba 0 s rfl HS_2.out (by omega) ?_)
    intro A2 c2 w2 hI2 hB2
    have HI2 := Lib.hid hI2
    have HB2 := Lib.hid hB2
    have hs2 := hB2.size
    clear hI2 hB2
    go_wp2_with (at_builtin; refine wpList_app_intG (by rfl) (.tmp 28) (.tmp 29) rfl w_2.heap.size A2 n c2 s rfl (World.ownsRow.alloc HI2.out _) 0 _ _ rfl (cellNew _ _ _) (by omega) ?_ ?_)
    · simp; omega
    intro A3 c3 w3 hI3 hK3
    have hB3 := (HB2.out.alloc hs2 (.cells #[.int .i64 0] 3)).trans (hK3.below (B := w_2.heap.size) (by simp; omega) (fun q hq => (HI2.out.lt q hq).1))
    obtain ⟨b3, hRa3⟩ := hI3.ia
    have HF3 := Lib.hid hRa3
    have HS_3 := Lib.hid (HS_2.out.below hB3)
    have hK_3 := below_more hK_2 hB3
    clear hI3 hK3 hB3 hRa3
    go_wp2_with (fail)
    refine (implPolyValid p A3 (n + 1) c3 b3 0 (s ++ [0]) _ HF3.out).mono ?_
    rintro e w_3 ⟨rfl, rfl⟩
    rw [HZ.out]
    go_wp2_with (fail)
    refine (implPolyValid p none 0 0 0 0 [] _ (HIE.out _)).mono ?_
    rintro e w_4 ⟨rfl, rfl⟩
    rw [HNIL.out]
    go_wp2_with (fail)
    refine (implPrimeOk p _).mono ?_
    rintro e w_5 ⟨rfl, rfl⟩
    rw [HPB.out]
    go_wp2_with (fail)
    refine (implSeriesValid p Aa n ca ba 0 s _ HS_3.out).mono ?_
    rintro e w_6 ⟨rfl, rfl⟩
    rw [HV2.out]
    go_wp2_with (fail)
    refine (alive _).mono ?_
    rintro e w_7 ⟨rfl, rfl⟩
    go_wp2_with (fail)
    go_ret
    exact ⟨rfl, hK_3⟩
end Go.Proofs.Ytmmadmfpbancmaa
