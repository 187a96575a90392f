/-
  The contracts of the model's l3Terms, RecTerms.
-/
import Derived.Test.YtecmclaockmgeaaDoorRecV
import Derived.Test.YtecmclaockmgeaaDoorApp
import Derived.Test.YtecmclaockmgeaaDoorTail
namespace Go.Proofs.YtecmclaockmgeaaDoor
open Go.RowKit
/-- the sum so far of the model -/
def tmS (T L : List Int) (k m : Nat) : Int := sigN m (fun j => co T j * co L (k - 1 - j))
theorem tmS_bd {p : Int} {T F : List Int} (h : recB p T F = true) (k m : Nat) (hk : T.length ≤ k) (hm : m ≤ T.length) : 0 ≤ tmS T (trm p T F k) k m ∧ tmS T (trm p T F k) k m ≤ 169 * (m : Int) := by
  obtain ⟨hp, h6, hl, hT, hF⟩ := recB_true h
  refine sigN_bd fun j hj => ?_
  have h1 := numB_bd (co_num hT (show j < T.length by omega))
  have h2 := numB_bd (co_num (trm_num h k) (show k - 1 - j < (trm p T F k).length by rw [trm_len]; omega))
  exact mul_bd h1.1 (by omega) h2.1 (by omega)
set_option maxRecDepth 100000 in
set_option maxHeartbeats 2000000 in
theorem specL3 (v : Value) (p : Int) (T F : List Int) (m : Nat) (w : World) (h : RV w v p T F) (hv : recB p T F = true) (hm : m ≤ 100000) :
    Calls Tryd.prog 17 #[v, .int .i64 m] w (MadeI m (trm p T F m) w) := by
  obtain ⟨A, n, c, b, o, A', n', c', b', o', rfl, g1, g2⟩ := h
  obtain ⟨hp, h6, hl, hT, hF⟩ := recB_true hv
  have hpb := prime_ge hp
  have hp0 : p ≠ 0 := by omega
  have hbig := g1.big
  have hbig' := g2.big
  obtain rfl : n' = n := by have h1 := g1.len; have h2 := g2.len; omega
  have HL := Lib.hid g1.len
  have HL' := Lib.hid g2.len
  rw [g1.len] at h6
  have hB0 : Below w.heap.size w (w.alloc (.cells #[.int .i64 p, .slice A n' c, .slice A' n' c'] 25)) := (Below.refl _ w).alloc (Nat.le_refl _) _
  have H := Lib.hid g1
  have H' := Lib.hid g2
  have HV := Lib.hid hv
  have HT := Lib.hid hT
  have HF := Lib.hid hF
  clear g1 g2 hv hT hF hp hl
  go_enter Tryd.func17, Tryd.ntmps17
  go_wp2_with (fail)
  obtain ⟨W0, hW0⟩ : ∃ W0, (w.alloc (.cells #[.int .i64 p, .slice A n' c, .slice A' n' c'] 25)).alloc (.cells #[] 3) = W0 := ⟨_, rfl⟩
  have hBw : Below w.heap.size w W0 := by rw [← hW0]; exact hB0.alloc (by simp) _
  have hs0 : W0.heap.size = w.heap.size + 2 := by rw [← hW0]; simp
  have z0 : W0.cell? ⟨w.heap.size, 0, none⟩ = some (.int .i64 p) := by rw [← hW0]; simp [go_sem]
  have z1 : W0.cell? ⟨w.heap.size, 1, none⟩ = some (.slice A n' c) := by rw [← hW0]; simp [go_sem]
  have z2 : W0.cell? ⟨w.heap.size, 2, none⟩ = some (.slice A' n' c') := by rw [← hW0]; simp [go_sem]
  have hrow : OI W0 (w.heap.size + 1) (some ⟨w.heap.size + 1, 0, none⟩) 0 0 [] := by
    have h1 := World.ownsRow_made (base := w.heap.size + 1) (e := 3) (size := 1) (w.alloc (.cells #[.int .i64 p, .slice A n' c, .slice A' n' c'] 25)) #[] 0 (by simp) (by unfold maxLen; omega) (by simp)
    rw [World.size_alloc] at h1
    rw [← hW0]; exact h1
  have Z := Lib.hid (And.intro z0 (And.intro z1 z2))
  have HB0 := Lib.hid hBw
  have HR := Lib.hid hrow
  rw [hW0]
  clear hW0 hB0 hBw z0 z1 z2 hrow
  go_loopw [5, 6] (fun s i wr => ∃ (k : Nat) (A5 : Option Addr) (c5 : Nat), k ≤ m ∧ i = .int .i64 k ∧ s = .slice A5 k c5 ∧ OI wr (w.heap.size + 1) A5 k c5 (trm p T F k) ∧ Hid (Below w.heap.size w wr) ∧ Hid (wr.cell? ⟨w.heap.size, 0, none⟩ = some (.int .i64 p)) ∧ Hid (wr.cell? ⟨w.heap.size, 1, none⟩ = some (.slice A n' c)) ∧ Hid (wr.cell? ⟨w.heap.size, 2, none⟩ = some (.slice A' n' c')) ∧ w.heap.size < wr.heap.size) (fun _ i _ => m - (intOf i).toNat)
  case atStart => exact ⟨0, _, _, by omega, rfl, rfl, HR.out, HB0.out, Z.out.1, Z.out.2.1, Z.out.2.2, by omega⟩
  case round =>
    obtain ⟨k, A5, c5, hk, rfl, rfl, hown, hbel, y0, y1, y2, hlt0⟩ := hrel
    obtain ⟨wo, rfl⟩ : ∃ wo : World, wo = wr := ⟨_, rfl⟩
    have z0 := y0.out
    have z1 := y1.out
    have z2 := y2.out
    by_cases hlt : k < m
    · by_cases hkn : k < n'
      · obtain rfl := H'.out.adr (by omega)
        obtain ⟨x, hx, hc⟩ := (H'.out.below hbel.out).cell k hkn
        have HST := Lib.hid (show trm p T F (k + 1) = trm p T F k ++ [x] by rw [trm_step, stm_low p T F (by rw [HL'.out]; exact hkn), show co F k = x from getD_at hx])
        have HO := Lib.hid hown
        clear hown hx
        go_wp2_with (at_builtin; refine wpList_app_int rfl (.tmp 20) (.tmp 26) rfl (w.heap.size + 1) A5 k c5 (trm p T F k) rfl (World.ownsRow.alloc HO.out _) x wo.heap.size 1 rfl (by simp [go_sem]) (by omega) (by simp; omega) ?_)
        intro A6 c6 w6 hO6 hK6
        have hk6 : Keep (fun g => (Value.slice A5 k c5).ownBlock = some g) wo w6 := (keep_of_below ((Below.refl _ wo).alloc (Nat.le_refl _) _) |>.mono (fun _ _ h => h.elim)).trans hK6
        have hnb : ¬ (Value.slice A5 k c5).ownBlock = some w.heap.size := fun h => by have := (HO.out.lt _ h).1; omega
        have HB6 := Lib.hid (hbel.out.trans (hk6.below (by have := hbel.out.size; omega) (fun g hg => by have := (HO.out.lt g hg).1; omega)))
        have q0 := Lib.hid (hk6.cell z0 hnb)
        have q1 := Lib.hid (hk6.cell z1 hnb)
        have q2 := Lib.hid (hk6.cell z2 hnb)
        have hs6 := hk6.size
        have HO6 := Lib.hid hO6
        clear hO6 hK6 hk6 hnb
        go_wp2_with (fail)
        go_roundw
        case rel => exact ⟨k + 1, A6, c6, by omega, by go_num, rfl, by rw [HST.out]; exact HO6.out, HB6.out, q0.out, q1.out, q2.out, by omega⟩
        case measure => simp [intOf]; omega
      · have HSB := Lib.hid (fun j hj => tmS_bd HV.out k j (by rw [HL.out]; omega) hj)
        obtain ⟨b5, hI5⟩ := hown.ia
        have HI5 := Lib.hid hI5
        have HO := Lib.hid hown
        obtain ⟨f, hf⟩ : ∃ f : Nat → Int, f = fun j => tmS T (trm p T F k) k j := ⟨_, rfl⟩
        have HFJ := Lib.hid (fun j => congrFun hf j)
        clear hown hI5 hf
        go_wp2_with (fail)
        go_loopw [7, 8] (fun s i wi => ∃ j : Nat, j ≤ n' ∧ i = .int .i64 j ∧ s = .int .i64 (f j) ∧ Hid (∃ mm, wi = wo.drewN mm)) (fun _ i _ => n' - (intOf i).toNat)
        case atStart => exact ⟨0, by omega, rfl, by rw [HFJ.out]; rfl, 0, rfl⟩
        case round =>
          obtain ⟨j, hj, rfl, rfl, hw⟩ := hrel
          obtain ⟨wi, rfl⟩ : ∃ wi : World, wi = wr := ⟨_, rfl⟩
          have hkd : Keep (fun _ => False) wo wi := by obtain ⟨mm, rfl⟩ := hw.out; exact drewN_keep _ _
          have i0 := hkd.cell z0 (fun h => h)
          have i1 := hkd.cell z1 (fun h => h)
          have i2 := hkd.cell z2 (fun h => h)
          have hsb := HSB.out j (by rw [HL.out]; exact hj)
          rw [← HFJ.out] at hsb
          have HBI := Lib.hid (below_drawn hbel.out hw.out)
          have hszi : wo.heap.size ≤ wi.heap.size := by obtain ⟨mm, rfl⟩ := hw.out; exact Nat.le_refl _
          clear hkd
          by_cases hjn : j < n'
          · obtain ⟨q, hq⟩ : ∃ q : Nat, q + j + 1 = k := ⟨k - j - 1, by omega⟩
            obtain rfl := H.out.adr (by omega)
            obtain ⟨t, ht, hc⟩ := ((H.out.below hbel.out).drewN hw.out).cell j hjn
            obtain ⟨y, hy, hc5⟩ := (HI5.out.drewN hw.out).cell q (by omega)
            obtain rfl := HI5.out.adr (by omega)
            have htb := numB_bd (HT.out t (List.mem_of_getElem? ht))
            have hyb := numB_bd (trm_num HV.out k y (List.mem_of_getElem? hy))
            have hmb := mul_bd htb.1 (by omega) hyb.1 (by omega)
            have hw1 : IntKind.i64.wrap ((k : Int) - 1) = (k : Int) - 1 := IntWalk.i64_in _ ⟨by omega, by omega⟩
            have hw2 : IntKind.i64.wrap ((k : Int) - 1 - (j : Int)) = (q : Int) := by rw [show (k : Int) - 1 - (j : Int) = (q : Int) by omega]; exact IntWalk.i64_in _ ⟨by omega, by omega⟩
            have hw3 : IntKind.i64.wrap (t * y) = t * y := IntWalk.i64_in _ ⟨by omega, by omega⟩
            have hw4 : IntKind.i64.wrap (f j + t * y) = f j + t * y := IntWalk.i64_in _ ⟨by omega, by omega⟩
            have HST := Lib.hid (show f (j + 1) = f j + t * y by
              rw [HFJ.out, HFJ.out]
              show sigN j _ + co T j * co (trm p T F k) (k - 1 - j) = _
              rw [show k - 1 - j = q by omega, show co T j = t from getD_at ht, show co (trm p T F k) q = y from getD_at hy]; rfl)
            rw [Nat.zero_add] at hc5
            have hqk : q < k := by omega
            clear ht hy hq
            go_wp2_with (fail)
            go_quiet (fail)
            go_wp2_with (fail)
            go_roundw
            case rel => exact ⟨j + 1, by omega, by go_num, by rw [HST.out], drewN_more hw.out _⟩
            case measure => simp [intOf]; omega
          · obtain rfl : j = n' := by omega
            have HST := Lib.hid (show trm p T F (k + 1) = trm p T F k ++ [f j % p] by
              rw [trm_step, HFJ.out, stm_eq, if_neg (by rw [HL'.out]; exact hkn), HL.out]; rfl)
            have HOI := Lib.hid (show OI (wi.alloc (.cells #[.int .i64 (f j % p)] 3)) (w.heap.size + 1) A5 k c5 (trm p T F k) from World.ownsRow.alloc (owns_below HO.out (below_drawn (Below.refl _ wo) hw.out)) _)
            have HNC := Lib.hid (show (wi.alloc (.cells #[.int .i64 (f j % p)] 3)).cell? ⟨wi.heap.size, 0, none⟩ = some (.int .i64 (f j % p)) by simp [go_sem])
            have hbs : w.heap.size + 1 ≤ (wi.alloc (.cells #[.int .i64 (f j % p)] 3)).heap.size := by simp only [World.size_alloc]; omega
            have HBS := Lib.hid hbs
            clear hbs
            go_wp2_with (at_builtin; refine wpList_app_int rfl (.tmp 50) (.tmp 55) rfl (w.heap.size + 1) A5 k c5 (trm p T F k) rfl HOI.out (f j % p) wi.heap.size 1 rfl HNC.out (by omega) HBS.out ?_)
            intro A6 c6 w6 hO6 hK6
            have hk6 : Keep (fun g => (Value.slice A5 k c5).ownBlock = some g) wi w6 := (keep_of_below ((Below.refl _ wi).alloc (Nat.le_refl _) _) |>.mono (fun _ _ h => h.elim)).trans hK6
            have hnb : ¬ (Value.slice A5 k c5).ownBlock = some w.heap.size := fun h => by have := (HO.out.lt _ h).1; omega
            have HB6 := Lib.hid (HBI.out.trans (hk6.below (by have := HBI.out.size; omega) (fun g hg => by have := (HO.out.lt g hg).1; omega)))
            have q0 := Lib.hid (hk6.cell i0 hnb)
            have q1 := Lib.hid (hk6.cell i1 hnb)
            have q2 := Lib.hid (hk6.cell i2 hnb)
            have hs6 := hk6.size
            have HO6 := Lib.hid hO6
            clear hO6 hK6 hk6 hnb
            go_wp2_with (fail)
            go_roundw
            case rel => exact ⟨k + 1, A6, c6, by omega, by go_num, rfl, by rw [HST.out]; exact HO6.out, HB6.out, q0.out, q1.out, q2.out, by omega⟩
            case measure => simp [intOf]; omega
    · obtain rfl : k = m := by omega
      have HO := Lib.hid hown
      clear hown
      go_wp2_with (fail)
      go_ret
      exact ⟨_, _, rfl, owns_mono HO.out (by omega), hbel.out⟩
end Go.Proofs.YtecmclaockmgeaaDoor
