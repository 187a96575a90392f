/-
  The contract of the program's RecNext.
-/
import Derived.Test.YtllakclbgmingaaNxt
namespace Go.Proofs.Ytllakclbgmingaa
open Go.RowKit
theorem OW.nil {w : World} {B q k c : Nat} (h : B ≤ q) (h2 : q < w.heap.size) : OW w B (some ⟨q, k, none⟩) 0 c [] :=
  ⟨q, k, ⟨rfl, fun h => by omega, by omega, fun i hi => by omega⟩, fun g hg => by cases hg; exact ⟨h, h2⟩, fun i hi => by omega⟩
theorem madeW_set3 {w W : World} {g : Nat} {p : Int} {T F : List Int} {A A' : Option Addr} {n n' c c' B B' : Nat} (hw : Below w.heap.size w W) (hn : T.length = n) (hn' : F.length = n') (h1 : OW W B A n c T) (h2 : OW W B' A' n' c' F) (hB : w.heap.size ≤ B) (hB' : w.heap.size ≤ B') (hg : w.heap.size ≤ g) (hgB : ∀ k, (Value.slice A n c).ownBlock = some k → k ≠ g) (hgB' : ∀ k, (Value.slice A' n' c').ownBlock = some k → k ≠ g) (ha : Apart (.slice A n c) (.slice A' n' c')) :
    MadeW p T F w (.returned (.agg #[.int .i64 p, .slice A n c, .slice A' n' c'])) (set3 W g (.int .i64 p) (.slice A n c) (.slice A' n' c')) := by
  subst hn; subst hn'
  exact ⟨_, rfl, ⟨A, c, A', c', rfl, (h1.keep (set3_keep W g _ _ _) (fun k hk e => hgB k hk e)).mono hB, (h2.keep (set3_keep W g _ _ _) (fun k hk e => hgB' k hk e)).mono hB', ha⟩, hw.trans (set3_far W g _ _ _ hg hw.size)⟩
theorem MadeR.w {p : Int} {T F : List Int} {w : World} {e : Ending} {w' : World} (h : MadeR p T F w e w') : MadeW p T F w e w' := by
  obtain ⟨v, he, h1, h2⟩ := h
  exact ⟨v, he, h1.rw, h2⟩
set_option maxRecDepth 100000 in
set_option maxHeartbeats 2000000 in
theorem implRecNext (v : Value) (p : Int) (T F : List Int) (w : World) (h : RV w v p T F) :
    Calls Try.prog 19 #[v] w (MadeW (nextO p T F).1 (nextO p T F).2.1 (nextO p T F).2.2 w) := by
  obtain ⟨A, n, c, b, o, A', n', c', b', o', rfl, g1, g2⟩ := h
  have H := Lib.hid (show RV w (.agg #[.int .i64 p, .slice A n c, .slice A' n' c']) p T F from ⟨_, _, _, _, _, _, _, _, _, _, rfl, g1, g2⟩)
  have HT2 := Lib.hid g1
  have HL := Lib.hid g1.len
  have HL' := Lib.hid g2.len
  have hbx := (Bx.new w (.int .i64 p) (.slice A n c) (.slice A' n' c') 25).below (below_new _ (.cells #[.int .i64 0, .slice none 0 0, .slice none 0 0] 25))
  have hbw := BxW.new (w.alloc (.cells #[.int .i64 p, .slice A n c, .slice A' n' c'] 25)) (.int .i64 0) (.slice none 0 0) (.slice none 0 0) 25
  rw [World.size_alloc] at hbw
  have hB0 := ((Below.refl w.heap.size w).alloc (Nat.le_refl _) (.cells #[.int .i64 p, .slice A n c, .slice A' n' c'] 25)).alloc (by simp) (.cells #[.int .i64 0, .slice none 0 0, .slice none 0 0] 25)
  have HV0 := Lib.hid (H.out.below hB0)
  have HBX := Lib.hid hbx
  have HBW := Lib.hid hbw
  have HB0 := Lib.hid hB0
  clear g1 g2 hbx hbw hB0
  rcases hv : recB p T F
  · have HV := Lib.hid hv
    have HE := Lib.hid (show nextO p T F = (0, [], []) by unfold nextO; rw [if_neg (by simp [hv])])
    clear hv
    go_enter Try.func19, Try.ntmps19
    go_wp2_with (go_at_call 12; refine (implRecValid _ p T F _ HV0.out).mono ?_; rintro e w1 ⟨rfl, hB⟩; rw [HV.out]; have HB1 := Lib.hid (below_more HB0.out hB); have hbw := HBW.out.below hB; have x0 := hbw.c.1; have x1 := hbw.c.2.1; have x2 := hbw.c.2.2; have fz := hbw.fz; clear hB hbw)
    refine bodyPost_ret (v := .agg #[.int .i64 0, .slice none 0 0, .slice none 0 0]) (by simp [results, Try.f19, go_sem, x0, x1, x2]) rfl ?_
    rw [HE.out]
    exact (made_zero HB1.out (by omega)).w
  have HV := Lib.hid hv
  obtain ⟨hp, h6, hl, hT, hF⟩ := recB_true hv
  have HE := Lib.hid (show nextO p T F = (p, T, (trm p T F (n' + 1)).drop 1) by unfold nextO; rw [if_pos hv, HL'.out])
  have hn6 : n' ≤ 8 := by rw [← HL'.out]; omega
  have hn6' : n ≤ 8 := by rw [← HL.out]; omega
  obtain ⟨N1, hN1⟩ : ∃ N1, n' + 1 = N1 := ⟨_, rfl⟩
  have hw1 : IntKind.i64.wrap ((n' : Int) + 1) = (N1 : Int) := by rw [show (n' : Int) + 1 = (N1 : Int) by omega]; exact IntWalk.i64_in _ ⟨by omega, by omega⟩
  have HTE := Lib.hid (show termsO p T F (N1 : Int) = trm p T F N1 by unfold termsO; rw [if_pos ⟨hv, by omega, by omega⟩]; rfl)
  have hN2 : (1 : Int) ≤ (N1 : Int) := by omega
  have hN3 : 1 ≤ N1 := by omega
  have hN4 : N1 - 1 = n' := by omega
  rw [hN1] at HE
  have HN1 := Lib.hid hN1
  clear hv hp hT hF hl h6 hN1
  go_enter Try.func19, Try.ntmps19
  go_wp2_with (go_at_call 12; refine (implRecValid _ p T F _ HV0.out).mono ?_; rintro e w1 ⟨rfl, hB⟩; rw [HV.out]; have HB1 := Lib.hid (below_more HB0.out hB); have hbx := HBX.out.below hB; have y0 := hbx.1; have y1 := hbx.2.1; have y2 := hbx.2.2; have HBX1 := Lib.hid hbx; have HBW1 := Lib.hid (HBW.out.below hB); clear hB hbx)
  have hs1 := HBW1.out.c.lt
  have hne : w.heap.size ≠ w.heap.size + 1 := by omega
  have hf0 : ∀ (W : World) (o o' : Nat) (v : Value), (W.setCell ⟨w.heap.size + 1, o, none⟩ v).cell? ⟨w.heap.size, o', none⟩ = W.cell? ⟨w.heap.size, o', none⟩ := fun W o o' v => World.cell?_setCell_far _ _ _ _ (by show w.heap.size + 1 ≠ w.heap.size; omega)
  have HTd := Lib.hid (HT2.out.below HB1.out.drew)
  have ZS := HBX1.out
  have Zd := HBX1.out.drew
  unfold Bx at ZS Zd
  go_region_held3 (fun w' => w'.cell? ⟨w.heap.size, 0, none⟩ = some (.int .i64 p) ∧ w'.cell? ⟨w.heap.size, 1, none⟩ = some (.slice A n c) ∧ w'.cell? ⟨w.heap.size, 2, none⟩ = some (.slice A' n' c')) (first | assumption | exact ZB | exact ZA | exact Zd | exact ZS | (refine ⟨?_, ?_, ?_⟩ <;> (simp only [hf0]; assumption)) | go_keep)
    (first
      | (go_at_call 42; refine (cloneI_any A n c b o T _ HTd.out (by omega)).mono ?_; rintro e w2 ⟨A6, c6, rfl, hO, hB⟩; have HO6 := Lib.hid hO; have HB2 := Lib.hid (below_more HB1.out.drew hB); have hs12 : w1.heap.size ≤ w2.heap.size := hB.size; have HBX2 := Lib.hid (HBX1.out.drew.below hB); have HBW2 := Lib.hid (HBW1.out.drew.below hB); have ZA := HBX2.out; unfold Bx at ZA; have HV2 := Lib.hid (H.out.below HB2.out); clear hO hB)
      | (go_at_call 22; refine (implRecTerms _ p T F (N1 : Int) _ HV2.out).mono ?_; rw [HTE.out, trm_len]; rintro e w3 ⟨A5, c5, rfl, hO, hB⟩; have hcap := OI.capLe hO; have HO5 := Lib.hid hO; have HB3 := Lib.hid (below_more HB2.out hB); have HO7 := Lib.hid (OIb HO6.out hB); have HBX3 := HBX2.out.below hB; have ZB := HBX3; unfold Bx at ZB; have hbw := HBW2.out.below hB; have x0 := hbw.c.1; have x1 := hbw.c.2.1; have x2 := hbw.c.2.2; have fz := hbw.fz; clear hB hbw hO HBX3))
  all_goals
    clear ZS Zd
    obtain ⟨A7, hA7⟩ : ∃ A7, (if c5 = 1 then A5 else Option.map (fun x : Addr => ({ block := x.block, off := x.off + 1 } : Addr)) A5) = A7 := ⟨_, rfl⟩
    rw [hA7]
    have hs3 := HB3.out.size
    have hs2 := HB2.out.size
    have HOW := Lib.hid (show OW w3 w2.heap.size A7 n' (c5 - 1) ((trm p T F N1).drop 1) from by
      obtain ⟨q5, rfl⟩ := oi_some HO5.out (by omega)
      have hlt5 := HO5.out.lt q5 rfl
      by_cases hc1 : c5 = 1
      · have h0 : n' = 0 := by omega
        subst h0
        have hN : N1 = 1 := HN1.out.symm
        rw [if_pos hc1] at hA7
        rw [← hA7, List.drop_of_length_le (by rw [trm_len, hN]; exact Nat.le_refl _)]
        exact OW.nil hlt5.1 hlt5.2
      · rw [if_neg hc1] at hA7
        have hO := HO5.out
        rw [← HN1.out] at hO ⊢
        obtain ⟨x, xs, hxs⟩ : ∃ x xs, trm p T F (n' + 1) = x :: xs := by
          cases ht : trm p T F (n' + 1) with
          | nil => have := trm_len p T F (n' + 1); rw [ht] at this; simp at this
          | cons x xs => exact ⟨x, xs, rfl⟩
        rw [hxs] at hO ⊢
        rw [← hA7]
        exact hO.tail)
    have hb7 : ∀ g, (Value.slice A7 n' (c5 - 1)).ownBlock = some g → w2.heap.size ≤ g := fun g hg => by
      obtain ⟨_, _, _, h2, _⟩ := HOW.out
      exact (h2 g hg).1
    have HB7 := Lib.hid hb7
    have HLT := Lib.hid (show ∀ g, (Value.slice A6 n c6).ownBlock = some g → w1.heap.size ≤ g ∧ g < w2.heap.size from fun g hg => HO6.out.lt g hg)
    clear hA7 hb7
    go_wp2_with (fail)
    refine bodyPost_ret (v := .agg #[.int .i64 p, .slice A6 n c6, .slice A7 n' (c5 - 1)]) (by simp [results, Try.f19, go_sem, x0, x1, x2]) rfl ?_
    rw [HE.out]
    refine madeW_set3 HB3.out HL.out (by rw [List.length_drop, trm_len]; exact hN4) HO7.out.ow HOW.out (by show w.heap.size ≤ w1.heap.size; omega) hs2 (by omega) (fun k hk => by have := (HLT.out k hk).1; omega) (fun k hk => by have := HB7.out k hk; omega) ?_
    rcases hg : (Value.slice A6 n c6).ownBlock with _ | g
    · exact .inl hg
    · right
      rw [hg]
      intro e
      have h1 := (HLT.out g hg).2
      have h2 := HB7.out g e.symm
      omega
end Go.Proofs.Ytllakclbgmingaa
