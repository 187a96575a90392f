/-
  The walk of the law of WordOk.
-/
import Derived.Test.YtegkmolffemkpaaWord
import Derived.Test.YtegkmolffemkpaaDrawL
import Derived.Test.YtegkmolffemkpaaSame
import Derived.Test.YtegkmolffemkpaaTrim
namespace Go.Proofs.Ytegkmolffemkpaa
open Go.RowKit
theorem ia_nil0 (w : World) : IA w none 0 0 0 [] := ⟨rfl, by omega, by omega, by omega⟩
theorem ia_drop1 {w : World} {n b : Nat} {xs : List Int} (h : IA w (some ⟨b, 0, none⟩) n b 0 xs) (hn : 1 ≤ n) : IA w (some ⟨b, 1, none⟩) (n - 1) b 1 (xs.drop 1) :=
  ⟨by rw [List.length_drop, h.len], fun _ => rfl, by have := h.big; omega, fun i hi => by
    obtain ⟨x, h1, h2⟩ := h.cell (1 + i) (by omega)
    exact ⟨x, by rw [List.getElem?_drop]; exact h1, by rw [Nat.zero_add] at h2; exact h2⟩⟩
theorem ia_drop0 {w : World} {n b : Nat} {xs : List Int} (h : IA w (some ⟨b, 0, none⟩) n b 0 xs) (hn : n ≤ 1) : IA w (some ⟨b, 0, none⟩) (n - 1) b 0 (xs.drop 1) :=
  ⟨by rw [List.length_drop, h.len], fun _ => rfl, by have := h.big; omega, fun i hi => by omega⟩
theorem wordB_drop {s : List Int} (h : wordB s = true) (n : Nat) : wordB (s.drop n) = true := by
  simp only [wordB, Bool.and_eq_true, decide_eq_true_eq, List.all_eq_true] at h ⊢
  exact ⟨fun x hx => h.1 x (List.mem_of_mem_drop hx), by rw [List.length_drop]; omega⟩
set_option maxRecDepth 100000 in
set_option maxHeartbeats 600000 in
theorem walkFnWordOk (a : Option Addr) (len cap : Nat) (zs : List Int) (w : World) (h : IsRow .u8 w a len cap zs) :
    Calls Try.prog 5 #[.slice a len cap] w fun e w' => e = .returned (.bool true) ∧ Below w.heap.size w w' := by
  have hm : len ≤ 9223372036854775807 := by have := rowBytes h; unfold maxLen at this; omega
  by_cases hb : 1048576 < len
  · go_enter Try.func5, Try.ntmps5
    go_wp2_with (fail)
    go_ret
    exact ⟨rfl, Below.refl _ _⟩
  have hd0 : decide (1048576 < (len : Int)) = false := by simp; omega
  go_enter Try.func5, Try.ntmps5
  go_wp2_with (fail)
  refine (drawWordOk a len cap zs w h).mono ?_
  rintro e w1 ⟨Aa, ca, s, rfl, hsl, hO, hB⟩
  obtain ⟨ba, hRa⟩ := OI.ia hO
  have hcapa := OI.capLe hO
  obtain ⟨n, hn⟩ : ∃ n, s.length = n := ⟨_, rfl⟩
  rw [hn] at hRa hsl hcapa ⊢
  have HS := Lib.hid hRa
  have HN := Lib.hid hn
  have HZ := Lib.hid (ia_nil0 w1)
  clear hRa hO h hn
  rcases hv : wordB s
  · have HV := Lib.hid hv
    clear hv
    go_wp2_with (fail)
    refine (implWord Aa n ca ba 0 s _ HS.out).mono ?_
    rintro e w_1 ⟨rfl, rfl⟩
    rw [HV.out]
    go_wp2_with (fail)
    refine (specWord Aa n ca ba 0 s _ HS.out).mono ?_
    rintro e w_2 ⟨rfl, rfl⟩
    rw [HV.out]
    go_wp2_with (fail)
    refine (implWord none 0 0 0 0 [] _ HZ.out).mono ?_
    rintro e w_3 ⟨rfl, rfl⟩
    rw [show wordB [] = true from rfl]
    go_wp2_with (fail)
    refine (alive _).mono ?_
    rintro e w_4 ⟨rfl, rfl⟩
    go_wp2_with (fail)
    go_ret
    exact ⟨rfl, hB⟩
  · by_cases hn0 : n = 0
    · have HV := Lib.hid hv
      subst hn0
      clear hv
      go_wp2_with (fail)
      refine (implWord Aa 0 ca ba 0 s _ HS.out).mono ?_
      rintro e w_1 ⟨rfl, rfl⟩
      rw [HV.out]
      go_wp2_with (fail)
      refine (specWord Aa 0 ca ba 0 s _ HS.out).mono ?_
      rintro e w_2 ⟨rfl, rfl⟩
      rw [HV.out]
      go_wp2_with (fail)
      refine (implWord none 0 0 0 0 [] _ HZ.out).mono ?_
      rintro e w_3 ⟨rfl, rfl⟩
      rw [show wordB [] = true from rfl]
      go_wp2_with (fail)
      refine (alive _).mono ?_
      rintro e w_4 ⟨rfl, rfl⟩
      go_wp2_with (fail)
      go_ret
      exact ⟨rfl, hB⟩
    · have HV := Lib.hid hv
      have HV2 := Lib.hid (wordB_drop hv 1)
      have hnz : ((n : Int) == 0) = false := by simpa using hn0
      clear hv
      go_wp2_with (fail)
      refine (implWord Aa n ca ba 0 s _ HS.out).mono ?_
      rintro e w_1 ⟨rfl, rfl⟩
      rw [HV.out]
      go_wp2_with (fail)
      refine (specWord Aa n ca ba 0 s _ HS.out).mono ?_
      rintro e w_2 ⟨rfl, rfl⟩
      rw [HV.out]
      obtain rfl := HS.out.adr (by omega)
      go_wp2_with (fail)
      all_goals
        first
          | with_reducible refine (implWord _ (n - 1) _ ba 1 (s.drop 1) _ (ia_drop1 HS.out (by omega))).mono ?_
          | with_reducible refine (implWord _ (n - 1) _ ba 0 (s.drop 1) _ (ia_drop0 HS.out (by omega))).mono ?_
        rintro e w_3 ⟨rfl, rfl⟩
        rw [HV2.out]
        go_wp2_with (fail)
        refine (implWord none 0 0 0 0 [] _ HZ.out).mono ?_
        rintro e w_5 ⟨rfl, rfl⟩
        rw [show wordB [] = true from rfl]
        go_wp2_with (fail)
        refine (alive _).mono ?_
        rintro e w_4 ⟨rfl, rfl⟩
        go_wp2_with (fail)
        go_ret
        exact ⟨rfl, hB⟩
end Go.Proofs.Ytegkmolffemkpaa
