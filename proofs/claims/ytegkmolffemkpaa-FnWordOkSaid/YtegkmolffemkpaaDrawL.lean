/-
  The contracts of the draws of words.
-/
import Derived.Test.YtegkmolffemkpaaDrawP
namespace Go.Proofs.Ytegkmolffemkpaa
open Go.RowKit
theorem below_drwL {B rb B2 : Nat} {w w1 w2 : World} (h : Below B w w1) (hk : Keep (Drw rb B2) w1 w2) (hB : B ≤ w.heap.size) (hr : B ≤ rb) (hB2 : B ≤ B2) : Below B w w2 :=
  h.trans (hk.below (Nat.le_trans hB h.size) (fun k hk => by rcases hk with h1 | h1 <;> omega))
def LetPost (rb n c cb co N : Nat) (A : Option Addr) (w : World) (e : Ending) (w' : World) : Prop :=
  ∃ (Ao : Option Addr) (ca : Nat) (xs : List Int), e = .returned (.slice Ao xs.length ca) ∧ xs.length ≤ 31 ∧ OI w' w.heap.size Ao xs.length ca xs ∧ Rd w' rb A n c cb co N ∧ Keep (Drw rb w.heap.size) w w'
set_option maxRecDepth 100000 in
set_option maxHeartbeats 1600000 in
theorem letters_any (rb n c cb co N : Nat) (A : Option Addr) (most : Nat) (m : Int) (w : World) (h : Rd w rb A n c cb co N) (hN : N ≤ 900000) (hmost : most ≤ 30) (hm : 0 ≤ m) (hm' : m ≤ 1000000) :
    Calls Try.prog 57 #[.pointer (some ⟨rb, 0, none⟩), .int .i64 (most : Int), .int .i64 m] w (LetPost rb n c cb co (N + 40) A w) := by
  have hrb := h.lt
  have hcb := fun hn => h.ltc hn
  have hmk := run_make_row' (P := Try.prog) 23 3 (.int .i64 0) 8 Try.underlying23 infoInt rfl .i64 .i64 13 (by omega) (by omega)
  have h9 : ((13 : Nat) : Int) = 13 := rfl
  simp only [h9] at hmk
  clear h9
  have HR0 := Lib.hid h
  have HCB := Lib.hid hcb
  clear h hcb
  go_enter Try.func57, Try.ntmps57
  go_wp2_with (fail)
  refine (pick_any rb n c cb co N A _ _ (HR0.out.alloc _) (by omega)).mono ?_
  rintro e w1 ⟨j0, rfl, hj0, hR1, hK1⟩
  have hj0 := hj0 (by omega)
  have HR1 := Lib.hid hR1
  have HK1 := Lib.hid (((Keep.refl (Drw rb w.heap.size) w).alloc (.cells #[] 3)).trans hK1.drwR)
  have HO1 := Lib.hid (owns_keep (OI.empty w) hK1 (fun g hg hs => by simp [Value.ownBlock] at hg; omega))
  have hs1 := hK1.size
  clear hR1 hK1
  go_wp2_with (fail)
  go_loopw [7, 8] (fun v i wr => ∃ (k q : Nat) (A1 : Option Addr) (c1 : Nat) (row : List Int), k + q = j0 ∧ i = .int .i64 (k : Int) ∧ v = .slice A1 q c1 ∧ OI wr w.heap.size A1 q c1 row ∧ Rd wr rb A n c cb co (N + 1 + q) ∧ Keep (Drw rb w.heap.size) w wr) (fun _ i _ => (intOf i).toNat)
  case atStart => exact ⟨j0, 0, _, _, [], by omega, rfl, rfl, HO1.out, HR1.out, HK1.out⟩
  case round =>
    obtain ⟨k, q, A1, c1, row, hkq, rfl, rfl, hown, hrd, hki⟩ := hrel
    have hsi := hki.size
    have hrl := hown.len
    have HO := Lib.hid hown
    have HKI := Lib.hid hki
    have HRD := Lib.hid hrd
    clear hown hrd hki
    by_cases hk0 : 0 < k
    · go_wp2_with (fail)
      refine (pick_any rb n c cb co _ A _ _ HRD.out (by omega)).mono ?_
      rintro e w2 ⟨j1, rfl, hj1, hR2, hK2⟩
      have HO2 := Lib.hid (owns_keep HO.out hK2 (fun g hg hs => by have := (HO.out.lt g hg).1; omega))
      have hs2 := hK2.size
      have HR2 := Lib.hid hR2
      have HK2 := Lib.hid (HKI.out.trans hK2.drwR)
      clear hR2 hK2
      go_wp2_with (at_builtin; refine wpList_app_int rfl (.tmp 18) (.tmp 21) rfl w.heap.size A1 q c1 row rfl (World.ownsRow.alloc HO2.out _) _ _ _ rfl (cellNew _ _ _) (by omega) ?_ ?_)
      · simp; omega
      · intro A4 c4 w4 hI4 hK4
        have HI4 := Lib.hid hI4
        have hst : ∀ g, (Value.slice A1 q c1).ownBlock = some g → w.heap.size ≤ g := fun g hg => (HO2.out.lt g hg).1
        have HR4 := Lib.hid ((HR2.out.alloc _).far hK4 (B := w.heap.size) (by omega) (fun hn => HCB.out hn) hst)
        have HK4 := Lib.hid ((HK2.out.alloc _).trans (hK4.drwB hst))
        clear hI4 hK4 hst
        go_wp2_with (fail)
        go_roundw
        case rel => exact ⟨k - 1, q + 1, A4, c4, _, by omega, by go_num, rfl, HI4.out, HR4.out.mono (by omega), HK4.out⟩
        case measure => simp [intOf]; omega
    · obtain rfl : k = 0 := by omega
      go_wp2_with (fail)
      refine (odd_any0 rb n c cb co _ A m _ HRD.out (by omega) hm hm').mono ?_
      rintro e w2 ⟨b, rfl, hb0, hR2, hK2⟩
      clear hb0
      have HO2 := Lib.hid (owns_keep HO.out hK2 (fun g hg hs => by have := (HO.out.lt g hg).1; omega))
      have hs2 := hK2.size
      have HR2 := Lib.hid hR2
      have HK2 := Lib.hid (HKI.out.trans hK2.drwR)
      clear hR2 hK2
      cases b
      · go_wp2_with (fail)
        go_ret
        exact ⟨A1, c1, row, by rw [hrl]; rfl, by omega, by rw [hrl]; exact HO2.out, HR2.out.mono (by omega), HK2.out⟩
      · go_wp2_with (fail)
        refine (pick_any rb n c cb co _ A _ _ HR2.out (by omega)).mono ?_
        rintro e w3 ⟨j3, rfl, hj3, hR3, hK3⟩
        have HO3 := Lib.hid (owns_keep HO2.out hK3 (fun g hg hs => by have := (HO2.out.lt g hg).1; omega))
        have hs3 := hK3.size
        have HR3 := Lib.hid hR3
        have HK3 := Lib.hid (HK2.out.trans hK3.drwR)
        clear hR3 hK3
        by_cases hj0 : (j3 : Int) = 0
        · have hj0b : ((j3 : Int) == 0) = true := by simpa using hj0
          go_wp2_with (at_builtin; refine wpList_app_int rfl (.tmp 29) (.tmp 30) rfl w.heap.size A1 q c1 row rfl (World.ownsRow.alloc HO3.out _) _ _ _ rfl (cellNew _ _ _) (by omega) ?_ ?_)
          · simp; omega
          · intro A4 c4 w4 hI4 hK4
            have HI4 := Lib.hid hI4
            have hst : ∀ g, (Value.slice A1 q c1).ownBlock = some g → w.heap.size ≤ g := fun g hg => (HO3.out.lt g hg).1
            have HR4 := Lib.hid ((HR3.out.alloc _).far hK4 (B := w.heap.size) (by omega) (fun hn => HCB.out hn) hst)
            have HK4 := Lib.hid ((HK3.out.alloc _).trans (hK4.drwB hst))
            clear hI4 hK4 hst
            go_wp2_with (fail)
            go_ret
            exact ⟨A4, c4, row ++ [2], by simp [hrl], by simp; omega, by simpa [hrl] using HI4.out, HR4.out.mono (by omega), HK4.out⟩
        · have hj0b : ((j3 : Int) == 0) = false := by simpa using hj0
          go_wp2_with (fail)
          go_ret
          exact ⟨some ⟨w3.heap.size, 0, none⟩, 13, List.replicate 13 0, rfl, by simp, owns_mono (made_ints w3 13 (by omega)) (show w.heap.size ≤ w3.heap.size by omega), (HR3.out.alloc _).mono (by omega), HK3.out.alloc _⟩
theorem drawWordOk (a : Option Addr) (len cap : Nat) (zs : List Int) (w : World) (h : IsRow .u8 w a len cap zs) :
    Calls Try.prog 23 #[.slice a len cap] w fun e w' => ∃ (Ao : Option Addr) (ca : Nat) (xs : List Int), e = .returned (.slice Ao xs.length ca) ∧ xs.length ≤ 31 ∧ OI w' w.heap.size Ao xs.length ca xs ∧ Below w.heap.size w w' := by
  go_enter Try.func23, Try.ntmps23
  go_wp2_with (fail)
  refine (open_any a len cap zs w h).mono ?_
  rintro e w1 ⟨rb, A, n, c, cb, co, rfl, hR, hB, hrb, hcb⟩
  have hs1 := hB.size
  go_wp2_with (fail)
  refine (letters_any rb n c cb co 0 A 12 3 _ hR (by omega) (by omega) (by decide) (by decide)).mono ?_
  rintro e w3 ⟨A3, c3, xs, rfl, hl3, hO3, hR3, hK3⟩
  have hB3 := below_drwL hB hK3 (Nat.le_refl _) hrb hs1
  go_wp2_with (fail)
  go_ret
  exact ⟨A3, c3, xs, rfl, hl3, owns_mono hO3 hs1, hB3⟩
end Go.Proofs.Ytegkmolffemkpaa
