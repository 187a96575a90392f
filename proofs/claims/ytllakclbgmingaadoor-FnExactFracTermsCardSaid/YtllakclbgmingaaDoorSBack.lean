/-
  The contract of the model's SeriesBack.
-/
import Derived.Test.YtllakclbgmingaaDoorIBack
namespace Go.Proofs.YtllakclbgmingaaDoor
open Go.RowKit
theorem neg_near {p : Int} (S bk : Int) : (-(S % p) * bk) % p = (-S) % p * bk % p := by
  apply mod_of_near
  have h1 := near_mod p S
  have h2 := near_mod p (-S)
  generalize S % p = v at h1 ⊢
  generalize -S % p = u at h2 ⊢
  have h3 := Int.dvd_add (Int.dvd_neg.2 (dvd_mulR h1 bk)) (Int.dvd_neg.2 (dvd_mulR h2 bk))
  rwa [show -((v - S) * bk) + -((u - -S) * bk) = -v * bk - u * bk by grind] at h3
set_option maxRecDepth 100000 in
set_option maxHeartbeats 1500000 in
theorem specSeriesBack (p : Int) (A : Option Addr) (n c b o : Nat) (s : List Int) (w : World) (h : IA w A n b o s) :
    Calls Tryd.prog 53 #[.int .i64 p, .slice A n c] w (MadeI (serBk p s).length (serBk p s) w) := by
  have hl := h.len
  have H := Lib.hid h
  rcases hv : serB p s
  · have HV := Lib.hid hv
    have HR := Lib.hid (show serBk p s = [] by unfold serBk; rw [if_neg (by simp [hv])])
    clear hv h
    go_enter Tryd.func53, Tryd.ntmps53
    go_wp2_with (fail)
    refine (specSeriesValid p A n c b o s _ (H.out.below ((Below.refl _ _).alloc (Nat.le_refl _) _))).mono ?_
    rintro e w1 ⟨rfl, rfl⟩
    rw [HV.out]
    go_wp2_with (fail)
    go_ret
    rw [HR.out]; exact ⟨_, 0, rfl, OI.empty w, (Below.refl _ _).alloc (Nat.le_refl _) _⟩
  by_cases hn : n = 0
  · subst hn
    have HV := Lib.hid hv
    have HR := Lib.hid (show serBk p s = [] by unfold serBk; rw [if_neg (by omega)])
    clear hv h
    go_enter Tryd.func53, Tryd.ntmps53
    go_wp2_with (fail)
    refine (specSeriesValid p A 0 c b o s _ (H.out.below ((Below.refl _ _).alloc (Nat.le_refl _) _))).mono ?_
    rintro e w1 ⟨rfl, rfl⟩
    rw [HV.out]
    go_wp2_with (fail)
    go_ret
    rw [HR.out]; exact ⟨_, 0, rfl, OI.empty w, (Below.refl _ _).alloc (Nat.le_refl _) _⟩
  obtain rfl := h.adr (by omega)
  obtain ⟨x, hx, hxc⟩ := h.cell 0 (by omega)
  have hB0 : Below w.heap.size w (w.alloc (.cells #[] 3)) := (Below.refl _ _).alloc (Nat.le_refl _) _
  have hxc' : (w.alloc (.cells #[] 3)).cell? ⟨b, o, none⟩ = some (.int .i64 x) := (keep_of_below hB0).cell hxc (fun h => h)
  have hc0 : co s 0 = x := getD_at hx
  have hnz : ((n : Int) == 0) = false := by simpa using hn
  have hnp : (0 : Int) < (n : Int) := by omega
  obtain ⟨hp, hfl, hfv⟩ := serB_true hv
  have hxb := numB_bd (hfv x (List.mem_of_getElem? hx))
  by_cases hx0 : x = 0
  · subst hx0
    have HV := Lib.hid hv
    have HR := Lib.hid (show serBk p s = [] by unfold serBk; rw [if_neg (by simp [hc0])])
    clear hv h hx hc0 hp hfv
    go_enter Tryd.func53, Tryd.ntmps53
    go_wp2_with (fail)
    refine (specSeriesValid p _ n c b o s _ (H.out.below hB0)).mono ?_
    rintro e w1 ⟨rfl, rfl⟩
    rw [HV.out]
    go_wp2_with (fail)
    go_ret
    rw [HR.out]; exact ⟨_, 0, rfl, OI.empty w, hB0⟩
  · have hxz : (x == 0) = false := by simpa using hx0
    have HV := Lib.hid hv
    obtain ⟨bk, hbk⟩ : ∃ bk, invM p x = bk := ⟨_, rfl⟩
    have hbkb : 0 ≤ bk ∧ bk < p := by rw [← hbk]; exact inv_bd hp
    have HR := Lib.hid (show serBk p s = bkL p s bk n by unfold serBk; rw [if_pos ⟨hv, by omega, by rw [hc0]; exact hx0⟩]; unfold backL; rw [hc0, hbk, hl])
    have HP := Lib.hid hp
    have HFV := Lib.hid hfv
    have hpb := prime_ge hp
    have HBK := Lib.hid hbk
    have HBV := Lib.hid (show ∀ k, ∀ y ∈ bkL p s bk k, numB p y = true from bkL_valid hp (numB_mk hp hbkb.1 hbkb.2))
    clear hv h hx hc0 hp hfv hbk
    go_enter Tryd.func53, Tryd.ntmps53
    go_wp2_with (fail)
    refine (specSeriesValid p _ n c b o s _ (H.out.below hB0)).mono ?_
    rintro e w1 ⟨rfl, rfl⟩
    rw [HV.out]
    go_wp2_with (fail)
    refine (specBack p x _ HP.out hxb.1 hxb.2.1).mono ?_
    rintro e w4 ⟨rfl, rfl⟩
    rw [HBK.out]
    go_wp2_with (at_builtin; refine wpList_app_int rfl (.tmp 32) (.tmp 34) rfl w.heap.size _ 0 0 [] rfl (World.ownsRow.alloc (OI.empty w) _) bk _ _ rfl ?_ (by omega) ?_ ?_)
    · simp
    · simp; omega
    · intro A1 c1 w2 hI2 hK2
      have HI2 := Lib.hid (show OI w2 w.heap.size A1 1 c1 [bk] by simpa using hI2)
      have HB2 := Lib.hid ((hB0.alloc hB0.size (.cells #[.int .i64 bk] 3)).trans (hK2.below (B := w.heap.size) (by simp; omega) (fun q hq => by simp [Value.ownBlock] at hq; omega)))
      clear hI2 hK2 hxc'
      go_wp2_with (fail)
      go_loopw [5, 7] (fun v i wr => ∃ (k : Nat) (A1 : Option Addr) (c1 : Nat), 1 ≤ k ∧ k ≤ n ∧ i = .int .i64 k ∧ v = .slice A1 k c1 ∧ OI wr w.heap.size A1 k c1 (bkL p s bk k) ∧ Below w.heap.size w wr) (fun _ i _ => n - (intOf i).toNat)
      case atStart => exact ⟨1, _, _, by omega, by omega, rfl, rfl, HI2.out, HB2.out⟩
      case round =>
        obtain ⟨k, A1, c1, hk1, hk2, rfl, rfl, hown, hbel⟩ := hrel
        obtain ⟨wo, rfl⟩ : ∃ wo : World, wo = wr := ⟨_, rfl⟩
        have hs0 := hbel.size
        by_cases hlt : k < n
        · obtain ⟨L, hL⟩ : ∃ L, bkL p s bk k = L := ⟨_, rfl⟩
          have hLl : L.length = k := by rw [← hL, bkL_len]
          have hLv : ∀ y ∈ L, numB p y = true := by rw [← hL]; exact HBV.out k
          have HST := Lib.hid (show bkL p s bk (k + 1) = L ++ [(-(sigN k (fun j => co s (j + 1) * co L (k - 1 - j)))) % p * bk % p] by rw [← hL]; show bkL p s bk k ++ [_] = _; rw [if_neg (by omega)])
          rw [hL] at hown
          obtain ⟨b1, hI1, hA1⟩ := OI.iaA hown
          have HI1 := Lib.hid hI1
          have HLL := Lib.hid hLl
          have HLV := Lib.hid hLv
          have HO := Lib.hid hown
          have HB := Lib.hid hbel
          clear hL hLl hLv hown hbel hI1 hA1
          go_wp2_with (fail)
          go_loopw [8, 9] (fun s8 i wr => ∃ j : Nat, j ≤ k ∧ i = .int .i64 ((j : Int) + 1) ∧ s8 = .int .i64 (sigN j (fun q => co s (q + 1) * co L (k - 1 - q))) ∧ Hid (∃ m, wr = wo.drewN m)) (fun _ i _ => k + 1 - (intOf i).toNat)
          case atStart => exact ⟨0, by omega, rfl, rfl, 0, rfl⟩
          case round =>
            obtain ⟨j, hj, rfl, rfl, hw⟩ := hrel
            have hbd : 0 ≤ sigN j (fun q => co s (q + 1) * co L (k - 1 - q)) ∧ sigN j (fun q => co s (q + 1) * co L (k - 1 - q)) ≤ 169 * (j : Int) := sigN_bd fun q _ => mul_bd (getD_bd HFV.out _).1 (getD_bd HFV.out _).2 (getD_bd HLV.out _).1 (getD_bd HLV.out _).2
            obtain ⟨S, hS⟩ : ∃ S, sigN j (fun q => co s (q + 1) * co L (k - 1 - q)) = S := ⟨_, rfl⟩
            rw [hS] at hbd ⊢
            by_cases hjk : j < k
            · obtain ⟨u, hu, huw⟩ := H.out.cell (j + 1) (by omega)
              obtain ⟨v, hv, hvw⟩ := HI1.out.cell (k - 1 - j) (by omega)
              obtain rfl := HI1.out.adr (by omega)
              have hBw := below_drawn (Below.refl wo.heap.size wo) hw.out
              have huc := (keep_of_below hBw).cell ((keep_of_below HB.out).cell huw (fun h => h)) (fun h => h)
              have hvc := (keep_of_below hBw).cell hvw (fun h => h)
              have hst : sigN (j + 1) (fun q => co s (q + 1) * co L (k - 1 - q)) = S + u * v := by show sigN j _ + co s (j + 1) * co L (k - 1 - j) = _; rw [hS, show co s (j + 1) = u from getD_at hu, show co L (k - 1 - j) = v from getD_at hv]
              have hub := numB_bd (HFV.out u (List.mem_of_getElem? hu))
              have hvb := numB_bd (HLV.out v (List.mem_of_getElem? hv))
              have hmb := mul_bd hub.1 (by omega) hvb.1 (by omega)
              have HST2 := Lib.hid hst
              rw [Nat.zero_add] at hvc
              have hvc2 : wr.cell? ⟨b1, k - (j + 1), none⟩ = some (.int .i64 v) := by rw [show k - (j + 1) = k - 1 - j by omega]; exact hvc
              have hsub : ((k : Int) - ((j : Int) + 1)).toNat = k - 1 - j := by omega
              have hj1 : ((j : Int) + 1).toNat = j + 1 := by omega
              have hsub0 : (0 : Int) ≤ (k : Int) - ((j : Int) + 1) := by omega
              have hsub1 : (k : Int) - ((j : Int) + 1) < (k : Int) := by omega
              have hj2 : (j : Int) + 1 < (n : Int) := by omega
              have hj3 : (0 : Int) ≤ (j : Int) + 1 := by omega
              clear hst hu hv huw hvw hBw
              go_wp2_with (fail)
              go_quiet (fail)
              go_wp2_with (fail)
              go_roundw
              case rel => exact ⟨j + 1, by omega, by go_num, by rw [HST2.out], drewN_more hw.out _⟩
              case measure => simp [intOf]; omega
            · obtain rfl : j = k := by omega
              rw [hS] at HST
              obtain ⟨U, hU⟩ : ∃ U, (-S) % p * bk % p = U := ⟨_, rfl⟩
              rw [hU] at HST
              have hsm : 0 ≤ S % p ∧ S % p < p := ⟨Int.emod_nonneg _ (by omega), Int.emod_lt_of_pos _ (by omega)⟩
              have hsb := mul_bd hsm.1 (by omega) hbkb.1 (by omega)
              have HM := Lib.hid (show (-(S % p) * bk) % p = U by rw [← hU]; exact neg_near S bk)
              have hwr : wrap64 (-(S % p) * bk) = -(S % p) * bk := by rw [Int.neg_mul]; generalize S % p * bk = z at hsb; unfold wrap64; omega
              have HBI := Lib.hid (below_drawn (Below.refl wo.heap.size wo) hw.out)
              have hsi := HBI.out.size
              have HOD := Lib.hid (owns_below HO.out HBI.out)
              have ht1 : -p < (-S).tmod p := Int.lt_tmod_of_pos _ (by omega)
              have ht2 : (-S).tmod p < p := Int.tmod_lt_of_pos _ (by omega)
              clear hS hw hU
              go_wp2_with (fail)
              refine (l1Mod_is HM.out _ hpb.1 hpb.2).mono ?_
              rintro e w3 ⟨rfl, rfl⟩
              go_wp2_with (at_builtin; refine wpList_app_int rfl (.tmp 60) (.tmp 69) rfl w.heap.size A1 j c1 _ rfl (World.ownsRow.alloc HOD.out _) U _ _ rfl ?_ (by omega) ?_ ?_)
              · simp
              · simp; omega
              · intro A3 c3 w4 hI4 hK4
                rw [← HST.out] at hI4
                have HI4 := Lib.hid hI4
                have HB4 := Lib.hid (((HB.out.trans (HBI.out.mono hs0)).alloc (Nat.le_trans hs0 hsi) (.cells #[.int .i64 U] 3)).trans (hK4.below (B := w.heap.size) (by simp; omega) (fun q hq => (HO.out.lt q hq).1)))
                clear hI4 hK4
                go_wp2_with (fail)
                go_roundw
                case rel => exact ⟨j + 1, _, _, by omega, by omega, by go_num, rfl, HI4.out, HB4.out⟩
                case measure => simp [intOf]; omega
        · obtain rfl : k = n := by omega
          have HO := Lib.hid hown
          clear hown
          go_wp2_with (fail)
          go_ret
          rw [HR.out]
          exact ⟨_, _, by rw [bkL_len]; rfl, by rw [bkL_len]; exact HO.out, hbel⟩
end Go.Proofs.YtllakclbgmingaaDoor
