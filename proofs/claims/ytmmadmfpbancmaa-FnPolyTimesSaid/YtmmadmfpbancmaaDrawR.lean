/-
  The contract of l20Polys, and the draws of two polynomials.
-/
import Derived.Test.YtmmadmfpbancmaaDrawQ
import Derived.Test.YtmmadmfpbancmaaPTimes
import Derived.Test.YtmmadmfpbancmaaEx
import Derived.Test.YtmmadmfpbancmaaVal
namespace Go.Proofs.Ytmmadmfpbancmaa
open Go.RowKit
def PolysPost (rb : Nat) (w : World) (e : Ending) (w' : World) : Prop :=
  ∃ (p : Int) (A : Option Addr) (c : Nat) (xs : List Int) (A2 : Option Addr) (c2 : Nat) (ys : List Int), e = .returned (.tuple #[.int .i64 p, .slice A xs.length c, .slice A2 ys.length c2]) ∧ 0 ≤ p ∧ p ≤ 17 ∧ xs.length ≤ 80 ∧ ys.length ≤ 80 ∧ OI w' w.heap.size A xs.length c xs ∧ OI w' w.heap.size A2 ys.length c2 ys ∧ Keep (Drw rb w.heap.size) w w'
theorem OI.drw {w w' : World} {B n c rb B2 : Nat} {A : Option Addr} {xs : List Int} (h : OI w B A n c xs) (k : Keep (Drw rb B2) w w') (hr : rb < B) (hB : w.heap.size ≤ B2) : OI w' B A n c xs :=
  owns_keep h k (fun g hg hs => by have := h.lt g hg; rcases hs with h1 | h1 <;> omega)
theorem Keep.drwF {rb B : Nat} {w w1 w2 : World} (h : Keep (Drw rb B) w w1) (hb : Below w1.heap.size w1 w2) : Keep (Drw rb B) w w2 := h.trans ((keep_of_below hb).mono (fun _ _ h => h.elim))
theorem Keep.drwT {rb B B2 : Nat} {w w1 w2 : World} (h : Keep (Drw rb B) w w1) (h2 : Keep (Drw rb B2) w1 w2) (hB : B ≤ B2) : Keep (Drw rb B) w w2 := h.trans (h2.mono (fun _ _ hg => Or.elim hg .inl (fun h => .inr (Nat.le_trans hB h))))
theorem IA.keepc {w w' : World} {A : Option Addr} {n b o : Nat} {xs : List Int} {S : Nat → Prop} (h : IA w A n b o xs) (k : Keep S w w') (hs : 0 < n → ¬ S b) : IA w' A n b o xs :=
  ⟨h.len, h.adr, h.big, fun i hi => let ⟨x, h1, h2⟩ := h.cell i hi; ⟨x, h1, k.cell h2 (hs (by omega))⟩⟩
theorem OI.iaB {w : World} {B n c : Nat} {A : Option Addr} {xs : List Int} (h : OI w B A n c xs) : ∃ b, IA w A n b 0 xs ∧ (0 < n → B ≤ b ∧ b < w.heap.size) := by
  obtain ⟨b, h1, h2⟩ := OI.iaA h
  refine ⟨b, h1, fun hn => ?_⟩
  rcases h2 with ⟨rfl, rfl⟩ | rfl
  · have := OI.capLe h; omega
  · exact h.lt b rfl
set_option maxRecDepth 100000 in
set_option maxHeartbeats 2000000 in
theorem polys_any (rb n c cb co N : Nat) (A : Option Addr) (w : World) (h : Rd w rb A n c cb co N) (hN : N ≤ 100000) :
    Calls Try.prog 50 #[.pointer (some ⟨rb, 0, none⟩)] w (PolysPost rb w) := by
  have hrb := h.lt
  have hcb := fun hn => h.ltc hn
  have HCB := Lib.hid hcb
  go_enter Try.func50, Try.ntmps50
  go_wp2_with (fail)
  refine (prime_any rb n c cb co N A _ _ h (by omega) (by decide) (by decide)).mono ?_
  rintro e w1 ⟨p, rfl, ⟨hp0, hp1⟩, hR1, hK1⟩
  have hs1 := hK1.size
  have HR1 := Lib.hid hR1
  have HK1 := Lib.hid (hK1.drwR (B := w.heap.size))
  clear hR1 hK1 hcb h
  go_wp2_with (fail)
  refine (poly_any rb n c cb co _ A p 7 14 _ HR1.out (by omega) hp0 hp1 (by omega) (by decide) (by decide)).mono ?_
  rintro e w2 ⟨A2, c2, f, rfl, hl2, hx2, _, hO2, hR2, hK2⟩
  have hs2 := hK2.size
  have HO2 := Lib.hid (owns_mono hO2 hs1)
  have HR2 := Lib.hid hR2
  have HK2 := Lib.hid (HK1.out.drwT hK2 hs1)
  clear hO2 hR2 hK2 hx2
  go_wp2_with (fail)
  refine (poly_any rb n c cb co _ A p 6 14 _ HR2.out (by omega) hp0 hp1 (by omega) (by decide) (by decide)).mono ?_
  rintro e w3 ⟨A3, c3, g, rfl, hl3, hx3, _, hO3, hR3, hK3⟩
  have hs3 := hK3.size
  have HO3 := Lib.hid (owns_mono hO3 (show w.heap.size ≤ w2.heap.size by omega))
  have HO2' := Lib.hid (OI.drw HO2.out hK3 hrb (Nat.le_refl _))
  have HR3 := Lib.hid hR3
  have HK3 := Lib.hid (HK2.out.drwT hK3 (by omega))
  clear hO3 hR3 hK3 hx3
  go_wp2_with (fail)
  refine (pick_any rb n c cb co _ A _ _ HR3.out (by omega)).mono ?_
  rintro e w4 ⟨j, rfl, hj, hR4, hK4⟩
  have hs4 := hK4.size
  have HO2 := Lib.hid (OI.drw HO2'.out (hK4.drwR (B := w3.heap.size)) hrb (Nat.le_refl _))
  have HO3 := Lib.hid (OI.drw HO3.out (hK4.drwR (B := w3.heap.size)) hrb (Nat.le_refl _))
  have HR4 := Lib.hid hR4
  have HK4 := Lib.hid (HK3.out.trans hK4.drwR)
  clear hR4 hK4 HO2'
  by_cases hj0 : (j : Int) = 0
  case neg =>
    have hj1 : ((j : Int) == 0) = false := by simpa using hj0
    go_wp2_with (fail)
    go_ret3
    exact ⟨p, A2, c2, f, A3, c3, g, rfl, hp0, hp1, by omega, by omega, HO2.out, HO3.out, HK4.out⟩
  obtain ⟨b2, hI2, hb2⟩ := OI.iaB HO2.out
  obtain ⟨b3, hI3, hb3⟩ := OI.iaB HO3.out
  have HB2 := Lib.hid hb2
  have HB3 := Lib.hid hb3
  clear hb2 hb3
  rcases hv : polB p f
  · have HV := Lib.hid hv
    clear hv
    go_wp2_with (fail)
    refine (specPolyValidB p A2 f.length c2 b2 0 f _ hI2).mono ?_
    rintro e w5 ⟨rfl, hB5⟩
    rw [HV.out]
    have HB5 := Lib.hid hB5
    clear hB5
    go_wp2_with (fail)
    go_ret3
    exact ⟨p, A2, c2, f, A3, c3, g, rfl, hp0, hp1, by omega, by omega, owns_below HO2.out HB5.out, owns_below HO3.out HB5.out, HK4.out.drwF HB5.out⟩
  have HV := Lib.hid hv
  rcases hv2 : polB p g
  · have HV2 := Lib.hid hv2
    clear hv hv2
    go_wp2_with (fail)
    refine (specPolyValidB p A2 f.length c2 b2 0 f _ hI2).mono ?_
    rintro e w5 ⟨rfl, hB5⟩
    rw [HV.out]
    have HB5 := Lib.hid hB5
    have hI3 := hI3.below hB5
    clear hB5
    go_wp2_with (fail)
    refine (specPolyValidB p A3 g.length c3 b3 0 g _ hI3).mono ?_
    rintro e w6 ⟨rfl, hB6⟩
    rw [HV2.out]
    have HB6 := Lib.hid (HB5.out.trans (hB6.mono HB5.out.size))
    clear hB6
    go_wp2_with (fail)
    go_ret3
    exact ⟨p, A2, c2, f, A3, c3, g, rfl, hp0, hp1, by omega, by omega, owns_below HO2.out HB6.out, owns_below HO3.out HB6.out, HK4.out.drwF HB6.out⟩
  have HV2 := Lib.hid hv2
  obtain ⟨hpr, _, hfv⟩ := serB_true (polB_ser hv)
  have hgv := (serB_true (polB_ser hv2)).2.2
  have hpb := prime_ge hpr
  have HPR := Lib.hid hpr
  have HFV := Lib.hid hfv
  have HGV := Lib.hid hgv
  clear hv hv2 hpr hfv hgv
  go_wp2_with (fail)
  refine (specPolyValidB p A2 f.length c2 b2 0 f _ hI2).mono ?_
  rintro e w5 ⟨rfl, hB5⟩
  rw [HV.out]
  have HB5 := Lib.hid hB5
  have hI3 := hI3.below hB5
  clear hB5
  go_wp2_with (fail)
  refine (specPolyValidB p A3 g.length c3 b3 0 g _ hI3).mono ?_
  rintro e w6 ⟨rfl, hB6⟩
  rw [HV2.out]
  have hB6 := HB5.out.trans (hB6.mono HB5.out.size)
  have hs6 := hB6.size
  have HI2 := Lib.hid (hI2.below hB6)
  have HI3 := Lib.hid (hI3.below (by assumption))
  have HR6 := Lib.hid (HR4.out.far (keep_of_below hB6) (B := w4.heap.size) (by omega) (fun hn => by have := HCB.out hn; omega) (fun _ h => h.elim))
  have HK6 := Lib.hid (HK4.out.drwF hB6)
  clear hB6 hI2 hI3
  go_wp2_with (fail)
  refine (poly_any rb n c cb co _ A p 4 0 _ HR6.out (by omega) hp0 hp1 (by omega) (by decide) (by decide)).mono ?_
  rintro e w7 ⟨A7, c7, h, rfl, hl7, _, hq7, hO7, hR7, hK7⟩
  have HHV := Lib.hid (show ∀ x ∈ h, numB p x = true from fun x hx => by obtain ⟨h1, h2⟩ := hq7 rfl x hx; exact numB_mk HPR.out h1 (by omega))
  have hs7 := hK7.size
  obtain ⟨b7, hI7⟩ := hO7.ia
  have hI2 := IA.keepc HI2.out hK7 (fun hn hs => by have := HB2.out hn; rcases hs with h1 | h1 <;> omega)
  have hI3 := IA.keepc HI3.out hK7 (fun hn hs => by have := HB3.out hn; rcases hs with h1 | h1 <;> omega)
  have HK7 := Lib.hid (HK6.out.drwT hK7 (by omega))
  have HI7 := Lib.hid hI7
  have HI3 := Lib.hid hI3
  clear HI2 hI3 hK7 hO7 hR7 hq7 HB2 HB3
  go_wp2_with (fail)
  refine (specTms p A2 f.length c2 b2 0 f A7 h.length c7 b7 0 h _ hI2 hI7 HPR.out HFV.out HHV.out (by omega) (by omega)).mono ?_
  rintro e w8 ⟨A8, c8, rfl, hO8, hB8⟩
  obtain ⟨M8, hM8⟩ : ∃ M, convR p f h (tmsN f h) = M := ⟨_, rfl⟩
  rw [hM8] at hO8 ⊢
  have hl8 : M8.length ≤ 79 := by rw [← hM8, convR_len]; unfold tmsN; split <;> omega
  have hs8 := hB8.size
  obtain ⟨b8, hI8, hA8⟩ := OI.iaA hO8
  have hc8 := OI.capLe hO8
  have hI7 := hI7.below hB8
  have HI7 := Lib.hid hI7
  have HI3 := Lib.hid (HI3.out.below hB8)
  have HK8 := Lib.hid (HK7.out.drwF hB8)
  clear hI7 hI2 hM8 hB8 hO8
  go_wp2_with (fail)
  refine (specTrim A8 M8.length c8 b8 0 M8 _ hI8 (by omega) hc8 hA8).mono ?_
  rintro e w9 ⟨A9, c9, rfl, hO9, hB9⟩
  have hl9 := trim_le2 M8
  have hs9 := hB9.size
  have hI7 := HI7.out.below hB9
  have hI3 := HI3.out.below hB9
  have HK9 := Lib.hid (HK8.out.drwF hB9)
  have HO9 := Lib.hid hO9
  clear HI7 HI3 hB9 hI8 hA8 hO9
  go_wp2_with (fail)
  refine (specTms p A3 g.length c3 b3 0 g A7 h.length c7 b7 0 h _ hI3 hI7 HPR.out HGV.out HHV.out (by omega) (by omega)).mono ?_
  rintro e w10 ⟨A10, c10, rfl, hO10, hB10⟩
  obtain ⟨M10, hM10⟩ : ∃ M, convR p g h (tmsN g h) = M := ⟨_, rfl⟩
  rw [hM10] at hO10 ⊢
  have hl10 : M10.length ≤ 79 := by rw [← hM10, convR_len]; unfold tmsN; split <;> omega
  have hs10 := hB10.size
  obtain ⟨b10, hI10, hA10⟩ := OI.iaA hO10
  have hc10 := OI.capLe hO10
  have HO9 := Lib.hid (owns_below HO9.out hB10)
  have HK10 := Lib.hid (HK9.out.drwF hB10)
  clear hI7 hI3 hM10 hB10 hO10
  go_wp2_with (fail)
  refine (specTrim A10 M10.length c10 b10 0 M10 _ hI10 (by omega) hc10 hA10).mono ?_
  rintro e w11 ⟨A11, c11, rfl, hO11, hB11⟩
  have hl11 := trim_le2 M10
  have HO9 := Lib.hid (owns_below HO9.out hB11)
  have HK11 := Lib.hid (HK10.out.drwF hB11)
  have HO11 := Lib.hid hO11
  clear hB11 hO11
  go_wp2_with (fail)
  go_ret3
  exact ⟨p, A9, c9, trimL M8, A11, c11, trimL M10, rfl, hp0, hp1, by omega, by omega, owns_mono HO9.out (by omega), owns_mono HO11.out (by omega), HK11.out⟩
theorem drawPolyDivide (a : Option Addr) (len cap : Nat) (zs : List Int) (w : World) (h : IsRow .u8 w a len cap zs) :
    Calls Try.prog 37 #[.slice a len cap] w (PRR 80 w) := by
  go_enter Try.func37, Try.ntmps37
  go_wp2_with (fail)
  refine (open_any a len cap zs w h).mono ?_
  rintro e w1 ⟨rb, A, n, c, cb, co, rfl, hR, hB, hrb, hcb⟩
  have hs1 := hB.size
  go_wp2_with (fail)
  refine (polys_any rb n c cb co 0 A _ hR (by omega)).mono ?_
  rintro e w2 ⟨p, A2, c2, f, A3, c3, g, rfl, hp0, hp1, hl2, hl3, hO2, hO3, hK⟩
  have hB2 := below_drw hB hK (Nat.le_refl _) hrb hs1
  go_wp2_with (fail)
  go_ret3
  exact ⟨p, A2, c2, f, A3, c3, g, rfl, hp0, hp1, hl2, hl3, owns_mono hO2 hs1, owns_mono hO3 hs1, hB2⟩
theorem drawPolyCommon (a : Option Addr) (len cap : Nat) (zs : List Int) (w : World) (h : IsRow .u8 w a len cap zs) :
    Calls Try.prog 40 #[.slice a len cap] w (PRR 80 w) := by
  go_enter Try.func40, Try.ntmps40
  go_wp2_with (fail)
  refine (open_any a len cap zs w h).mono ?_
  rintro e w1 ⟨rb, A, n, c, cb, co, rfl, hR, hB, hrb, hcb⟩
  have hs1 := hB.size
  go_wp2_with (fail)
  refine (polys_any rb n c cb co 0 A _ hR (by omega)).mono ?_
  rintro e w2 ⟨p, A2, c2, f, A3, c3, g, rfl, hp0, hp1, hl2, hl3, hO2, hO3, hK⟩
  have hB2 := below_drw hB hK (Nat.le_refl _) hrb hs1
  go_wp2_with (fail)
  go_ret3
  exact ⟨p, A2, c2, f, A3, c3, g, rfl, hp0, hp1, hl2, hl3, owns_mono hO2 hs1, owns_mono hO3 hs1, hB2⟩
theorem drawPolyAdd (a : Option Addr) (len cap : Nat) (zs : List Int) (w : World) (h : IsRow .u8 w a len cap zs) :
    Calls Try.prog 25 #[.slice a len cap] w (PRR 80 w) := by
  go_enter Try.func25, Try.ntmps25
  go_wp2_with (fail)
  refine (open_any a len cap zs w h).mono ?_
  rintro e w1 ⟨rb, A, n, c, cb, co, rfl, hR, hB, hrb, hcb⟩
  have hs1 := hB.size
  go_wp2_with (fail)
  refine (polys_any rb n c cb co 0 A _ hR (by omega)).mono ?_
  rintro e w2 ⟨p, A2, c2, f, A3, c3, g, rfl, hp0, hp1, hl2, hl3, hO2, hO3, hK⟩
  have hB2 := below_drw hB hK (Nat.le_refl _) hrb hs1
  go_wp2_with (fail)
  go_ret3
  exact ⟨p, A2, c2, f, A3, c3, g, rfl, hp0, hp1, hl2, hl3, owns_mono hO2 hs1, owns_mono hO3 hs1, hB2⟩
theorem drawPolyTimes (a : Option Addr) (len cap : Nat) (zs : List Int) (w : World) (h : IsRow .u8 w a len cap zs) :
    Calls Try.prog 33 #[.slice a len cap] w (PRR 80 w) := by
  go_enter Try.func33, Try.ntmps33
  go_wp2_with (fail)
  refine (open_any a len cap zs w h).mono ?_
  rintro e w1 ⟨rb, A, n, c, cb, co, rfl, hR, hB, hrb, hcb⟩
  have hs1 := hB.size
  go_wp2_with (fail)
  refine (polys_any rb n c cb co 0 A _ hR (by omega)).mono ?_
  rintro e w2 ⟨p, A2, c2, f, A3, c3, g, rfl, hp0, hp1, hl2, hl3, hO2, hO3, hK⟩
  have hB2 := below_drw hB hK (Nat.le_refl _) hrb hs1
  go_wp2_with (fail)
  go_ret3
  exact ⟨p, A2, c2, f, A3, c3, g, rfl, hp0, hp1, hl2, hl3, owns_mono hO2 hs1, owns_mono hO3 hs1, hB2⟩
end Go.Proofs.Ytmmadmfpbancmaa
