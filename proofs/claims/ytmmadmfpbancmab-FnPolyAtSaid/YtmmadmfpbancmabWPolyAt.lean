/-
  The walk of the law of PolyAt.
-/
import Derived.Test.YtmmadmfpbancmabIDiv
import Derived.Test.YtmmadmfpbancmabDrawA
import Derived.Test.YtmmadmfpbancmabSame
import Derived.Test.YtmmadmfpbancmabEx
import Derived.Test.YtmmadmfpbancmabIAt
import Derived.Test.YtmmadmfpbancmabPolN
namespace Go.Proofs.Ytmmadmfpbancmab
open Go.RowKit
theorem made2_some {q r : List Int} {w w' : World} {e : Ending} (h : MadeO2 (some (q, r)) w e w') : ∃ (A : Option Addr) (c b : Nat) (A' : Option Addr) (c' b' : Nat), e = .returned (.tuple #[.slice A q.length c, .slice A' r.length c', .bool true]) ∧ IA w' A q.length b 0 q ∧ IA w' A' r.length b' 0 r ∧ Below w.heap.size w w' := by
  obtain ⟨A, c, A', c', rfl, h1, h2, _, hb⟩ := h
  obtain ⟨b1, i1⟩ := h1.ia
  obtain ⟨b2, i2⟩ := h2.ia
  exact ⟨A, c, b1, A', c', b2, rfl, i1, i2, hb⟩
theorem made2_none {w w' : World} {e : Ending} (h : MadeO2 none w e w') : ∃ (A : Option Addr) (c b : Nat) (A' : Option Addr) (c' b' : Nat), e = .returned (.tuple #[.slice A 0 c, .slice A' 0 c', .bool false]) ∧ IA w' A 0 b 0 [] ∧ IA w' A' 0 b' 0 [] ∧ Below w.heap.size w w' := by
  obtain ⟨A, c, A', c', rfl, h1, h2, _, hb⟩ := h
  obtain ⟨b1, i1⟩ := h1.ia
  obtain ⟨b2, i2⟩ := h2.ia
  exact ⟨A, c, b1, A', c', b2, rfl, i1, i2, hb⟩
theorem made1_some {q : List Int} {w w' : World} {e : Ending} (h : MadeO (some q) w e w') : ∃ (A : Option Addr) (c b : Nat), e = .returned (.tuple #[.slice A q.length c, .bool true]) ∧ IA w' A q.length b 0 q ∧ Below w.heap.size w w' := by
  obtain ⟨A, c, rfl, h1, hb⟩ := h
  obtain ⟨b1, i1⟩ := h1.ia
  exact ⟨A, c, b1, rfl, i1, hb⟩
theorem made1_none {w w' : World} {e : Ending} (h : MadeO none w e w') : ∃ (A : Option Addr) (c b : Nat), e = .returned (.tuple #[.slice A 0 c, .bool false]) ∧ IA w' A 0 b 0 [] ∧ Below w.heap.size w w' := by
  obtain ⟨A, c, rfl, h1, hb⟩ := h
  obtain ⟨b1, i1⟩ := h1.ia
  exact ⟨A, c, b1, rfl, i1, hb⟩
theorem IA.fresh2 {w : World} (x y : Int) : IA (w.alloc (.cells #[.int .i64 x, .int .i64 y] 3)) (some ⟨w.heap.size, 0, none⟩) 2 w.heap.size 0 [x, y] := by
  have h := World.ownsRow_lit (e := 3) (base := w.heap.size) (size := 1) w #[.int .i64 x, .int .i64 y] 2 (Nat.le_refl _) (by unfold maxLen; omega) (by simp)
  obtain ⟨b, h1, h2⟩ := OI.iaA (show OI (w.alloc (.cells #[.int .i64 x, .int .i64 y] 3)) w.heap.size (some ⟨w.heap.size, 0, none⟩) 2 2 [x, y] by unfold OI ints; exact h)
  rcases h2 with ⟨h3, _⟩ | h3
  · cases h3
  · cases h3; exact h1
set_option maxRecDepth 100000 in
set_option maxHeartbeats 2000000 in
theorem walkFnPolyAt (a : Option Addr) (len cap : Nat) (zs : List Int) (w : World) (h : IsRow .u8 w a len cap zs) :
    Calls Try.prog 3 #[.slice a len cap] w fun e w' => e = .returned (.bool true) ∧ Below w.heap.size w w' := by
  have hm : len ≤ 9223372036854775807 := by have := rowBytes h; unfold maxLen at this; omega
  by_cases hb : 1048576 < len
  · go_enter Try.func3, Try.ntmps3
    go_wp2_with (fail)
    go_ret
    exact ⟨rfl, Below.refl _ _⟩
  have hd0 : decide (1048576 < (len : Int)) = false := by simp; omega
  go_enter Try.func3, Try.ntmps3
  go_wp2_with (fail)
  refine (drawPolyAt a len cap zs w h).mono ?_
  rintro e w1 ⟨p, Af, cf, f, x, rfl, hp0, hp1, hfl, hxl, hxh, hO, hB⟩
  obtain ⟨bf, hRf⟩ := hO.ia
  have HF := Lib.hid hRf
  clear hRf hO h
  by_cases hc : polB p f = true ∧ numB p x = true
  · have hpa : polAt p f x = atL p x f := by unfold polAt; rw [if_pos hc]
    obtain ⟨hr1, hr2, hr3⟩ := root_law (x := x) hc.1
    obtain ⟨hp, hx0, hx1⟩ := numB_true hc.2
    have hpb := prime_ge hp
    have hvb := numB_true (atL_bd (x := x) hp f)
    obtain ⟨v, hv⟩ : ∃ v, atL p x f = v := ⟨_, rfl⟩
    rw [hv] at hpa hr2 hr3 hvb
    obtain ⟨r0, hr0⟩ : ∃ r0, (p - x) % p = r0 := ⟨_, rfl⟩
    rw [hr0] at hr1 hr2 hr3
    obtain ⟨q, hq⟩ : ∃ q, quoL p f [r0, 1] = q := ⟨_, rfl⟩
    obtain ⟨r, hr⟩ : ∃ r, remL p f [r0, 1] = r := ⟨_, rfl⟩
    have hD : polDiv p f [r0, 1] = some (q, r) := by unfold polDiv; rw [if_pos ⟨hc.1, hr1, by simp⟩, hq, hr]
    rw [hr] at hr2 hr3
    have HD := Lib.hid hD
    have HV := Lib.hid hpa
    have HR2 := Lib.hid hr2
    have HR3 := Lib.hid hr3
    have hw1 : IntKind.i64.wrap (p - x) = p - x := IntWalk.i64_in _ ⟨by omega, by omega⟩
    have hpx : 0 ≤ p - x := by omega
    have hpn : p ≠ 0 := by omega
    obtain ⟨hv0, hv1⟩ := hvb.2
    clear hD hpa hr2 hr3 hq hr hc hvb hr1 hp
    go_wp2_with (fail)
    refine (implPolyAt p Af f.length cf bf 0 f x _ HF.out).mono ?_
    rw [HV.out]
    rintro e w_1 ⟨rfl, hBq⟩
    have HF_1 := Lib.hid (HF.out.below hBq)
    have hK_1 := below_more hB hBq
    clear hBq
    go_wp2_with (fail)
    refine (specPolyAt p Af f.length cf bf 0 f x _ HF_1.out).mono ?_
    rw [HV.out]
    rintro e w_2 ⟨rfl, hBq⟩
    have HF_2 := Lib.hid (HF_1.out.below hBq)
    have hK_2 := below_more hK_1 hBq
    clear hBq
    go_wp2_with (fail)
    have hBa : Below w_2.heap.size w_2 (w_2.alloc (.cells #[.int .i64 r0, .int .i64 1] 3)) := (Below.refl _ _).alloc (Nat.le_refl _) _
    have HL := Lib.hid (IA.fresh2 (w := w_2) r0 1)
    have HF_3 := Lib.hid (HF_2.out.below hBa)
    have hK_3 := below_more hK_2 hBa
    rw [hr0]
    go_wp2_with (fail)
    refine (implPolyDivide p Af f.length cf bf 0 f (some ⟨w_2.heap.size, 0, none⟩) 2 2 w_2.heap.size 0 [r0, 1] _ HF_3.out HL.out).mono ?_
    rw [HD.out]
    rintro e w_3 hMq
    obtain ⟨AQ, cQ, bQ, AR, cR, bR, rfl, hRq0, hRq1, hBq⟩ := made2_some hMq
    have HQ_3 := Lib.hid hRq0
    have HR_3 := Lib.hid hRq1
    have HF_3 := Lib.hid (HF_3.out.below hBq)
    have HL_3 := Lib.hid (HL.out.below hBq)
    have hK_3 := below_more hK_3 hBq
    clear hBq hRq0 hRq1 hMq
    have hr2 := HR2.out
    have hr3 := HR3.out
    have HRR := Lib.hid HR_3.out
    by_cases hv0' : v = 0
    · obtain rfl : r = [] := List.eq_nil_of_length_eq_zero (hr2.2 hv0')
      clear hr2 hr3 HR2 HR3
      have hvz : (v == 0) = true := by simpa using hv0'
      go_wp2_with (fail)
      go_ret
      exact ⟨rfl, hK_3⟩
    · obtain rfl : r = [v] := by
        rcases hr3 with h1 | h1
        · exact absurd (hr2.1 h1) hv0'
        · exact h1
      have hvz : (v == 0) = false := by simpa using hv0'
      obtain ⟨y, hy, hcy⟩ := HRR.out.cell 0 (by simp)
      obtain rfl : v = y := by simpa using hy
      obtain rfl := HRR.out.adr (by simp)
      clear hr2 hr3 HR2 HR3 hy
      go_wp2_with (fail)
      go_ret
      exact ⟨rfl, hK_3⟩
  · have HV := Lib.hid (show polAt p f x = -1 by unfold polAt; rw [if_neg hc])
    go_wp2_with (fail)
    refine (implPolyAt p Af f.length cf bf 0 f x _ HF.out).mono ?_
    rw [HV.out]
    rintro e w_1 ⟨rfl, hBq⟩
    have HF_1 := Lib.hid (HF.out.below hBq)
    have hK_1 := below_more hB hBq
    clear hBq
    go_wp2_with (fail)
    refine (specPolyAt p Af f.length cf bf 0 f x _ HF_1.out).mono ?_
    rw [HV.out]
    rintro e w_2 ⟨rfl, hBq⟩
    have HF_2 := Lib.hid (HF_1.out.below hBq)
    have hK_2 := below_more hK_1 hBq
    clear hBq
    go_wp2_with (fail)
    refine (alive _).mono ?_
    rintro e w_3 ⟨rfl, rfl⟩
    go_wp2_with (fail)
    go_ret
    exact ⟨rfl, hK_2⟩
end Go.Proofs.Ytmmadmfpbancmab
