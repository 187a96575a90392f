/-
  The contracts of the model's l2Add and PolyAdd.
-/
import Derived.Test.YtdecaokngedghaaPolM
namespace Go.Proofs.Ytdecaokngedghaa
open Go.RowKit
set_option maxHeartbeats 1000000 in
theorem specAdd (p t : Int) (A : Option Addr) (n c b o : Nat) (f : List Int) (A' : Option Addr) (n' c' b' o' : Nat) (g : List Int) (w : World) (h : IA w A n b o f) (h' : IA w A' n' b' o' g) (hpr : primeB p = true)
    (hf : ∀ x ∈ f, numB p x = true) (hg : ∀ x ∈ g, numB p x = true) (ht : 0 ≤ t ∧ t ≤ 13) (hn : n ≤ 100000) (hn' : n' ≤ 100000) :
    Calls Try.prog 45 #[.int .i64 p, .slice A n c, .slice A' n' c', .int .i64 t] w (MadeI (addL p f g t).length (addL p f g t) w) := by
  have hp := prime_ge hpr
  have HL := Lib.hid h.len
  have HL' := Lib.hid h'.len
  have H := Lib.hid h
  have H' := Lib.hid h'
  have HF := Lib.hid hf
  have HG := Lib.hid hg
  clear h h' hf hg
  go_enter Try.func45, Try.ntmps45
  go_wp2_with (fail)
  go_loopw [9, 10] (fun v i wr => ∃ (k : Nat) (A1 : Option Addr) (c1 : Nat), k ≤ max n n' ∧ i = .int .i64 k ∧ v = .slice A1 k c1 ∧ OI wr w.heap.size A1 k c1 ((addR p f g t).take k) ∧ Below w.heap.size w wr) (fun _ i _ => max n n' - (intOf i).toNat)
  case atStart => exact ⟨0, _, _, by omega, rfl, rfl, OI.empty w, (Below.refl _ _).alloc (Nat.le_refl _) _⟩
  case round =>
    obtain ⟨k, A1, c1, hk, rfl, rfl, hown, hbel⟩ := hrel
    have hcs : (k < n ∧ k < n') ∨ (k < n ∧ ¬ k < n') ∨ (¬ k < n ∧ k < n') ∨ (¬ k < n ∧ ¬ k < n') := by omega
    rcases hcs with ⟨h1, h2⟩ | ⟨h1, h2⟩ | ⟨h1, h2⟩ | ⟨h1, h2⟩
    · skip
      obtain rfl := H.out.adr (by omega)
      obtain ⟨x, hx, hxw⟩ := H.out.cell k (by omega)
      have hxc := (keep_of_below hbel).cell hxw (fun h => h)
      have hfx := getD_at hx
      have hxb := numB_bd (HF.out x (List.mem_of_getElem? hx))
      obtain rfl := H'.out.adr (by omega)
      obtain ⟨y, hy, hyw⟩ := H'.out.cell k (by omega)
      have hyc := (keep_of_below hbel).cell hyw (fun h => h)
      have hgy := getD_at hy
      have hyb := numB_bd (HG.out y (List.mem_of_getElem? hy))
      have hmb := mul_bd ht.1 ht.2 hyb.1 (by omega)
      obtain ⟨u, hu⟩ : ∃ u, addN p f g t k = u := ⟨_, rfl⟩
      have hmod : (x + t * y) % p = u := by rw [← hu]; unfold addN; rw [hfx, hgy]
      have HS := Lib.hid (take_snoc _ k u (by rw [addR_get p f g t (by rw [HL.out, HL'.out]; omega), hu]))
      have HM := Lib.hid hmod
      have HO := Lib.hid hown
      have HB := Lib.hid hbel
      have hs1 := hbel.size
      clear hown hbel hmod hu hfx hgy hx hxw hy hyw
      go_wp2_with (fail)
      refine (l1Mod_is HM.out _ hp.1 hp.2).mono ?_
      rintro e w3 ⟨rfl, rfl⟩
      go_wp2_with (at_builtin; refine wpList_app_int rfl (.tmp 45) (.tmp 49) rfl w.heap.size A1 k c1 _ rfl (World.ownsRow.alloc HO.out _) u _ _ rfl ?_ (by omega) ?_ ?_)
      · simp
      · simp; omega
      · intro A3 c3 w4 hI4 hK4
        rw [HS.out] at hI4
        have HI4 := Lib.hid hI4
        have HB4 := Lib.hid ((HB.out.alloc hs1 (.cells #[.int .i64 u] 3)).trans (hK4.below (B := w.heap.size) (by simp; omega) (fun q hq => (HO.out.lt q hq).1)))
        clear hI4 hK4
        go_wp2_with (fail)
        go_roundw
        case rel => exact ⟨k + 1, _, _, by omega, by go_num, rfl, HI4.out, HB4.out⟩
        case measure => simp [intOf]; omega
    · skip
      obtain rfl := H.out.adr (by omega)
      obtain ⟨x, hx, hxw⟩ := H.out.cell k (by omega)
      have hxc := (keep_of_below hbel).cell hxw (fun h => h)
      have hfx := getD_at hx
      have hxb := numB_bd (HF.out x (List.mem_of_getElem? hx))
      have hgy := getD_far (xs := g) (k := k) (by rw [HL'.out]; omega)
      obtain ⟨u, hu⟩ : ∃ u, addN p f g t k = u := ⟨_, rfl⟩
      have hmod : (x) % p = u := by rw [← hu]; unfold addN; rw [hfx, hgy]; simp
      have HS := Lib.hid (take_snoc _ k u (by rw [addR_get p f g t (by rw [HL.out, HL'.out]; omega), hu]))
      have HM := Lib.hid hmod
      have HO := Lib.hid hown
      have HB := Lib.hid hbel
      have hs1 := hbel.size
      clear hown hbel hmod hu hfx hgy hx hxw
      go_wp2_with (fail)
      refine (l1Mod_is HM.out _ hp.1 hp.2).mono ?_
      rintro e w3 ⟨rfl, rfl⟩
      go_wp2_with (at_builtin; refine wpList_app_int rfl (.tmp 45) (.tmp 49) rfl w.heap.size A1 k c1 _ rfl (World.ownsRow.alloc HO.out _) u _ _ rfl ?_ (by omega) ?_ ?_)
      · simp
      · simp; omega
      · intro A3 c3 w4 hI4 hK4
        rw [HS.out] at hI4
        have HI4 := Lib.hid hI4
        have HB4 := Lib.hid ((HB.out.alloc hs1 (.cells #[.int .i64 u] 3)).trans (hK4.below (B := w.heap.size) (by simp; omega) (fun q hq => (HO.out.lt q hq).1)))
        clear hI4 hK4
        go_wp2_with (fail)
        go_roundw
        case rel => exact ⟨k + 1, _, _, by omega, by go_num, rfl, HI4.out, HB4.out⟩
        case measure => simp [intOf]; omega
    · skip
      have hfx := getD_far (xs := f) (k := k) (by rw [HL.out]; omega)
      obtain rfl := H'.out.adr (by omega)
      obtain ⟨y, hy, hyw⟩ := H'.out.cell k (by omega)
      have hyc := (keep_of_below hbel).cell hyw (fun h => h)
      have hgy := getD_at hy
      have hyb := numB_bd (HG.out y (List.mem_of_getElem? hy))
      have hmb := mul_bd ht.1 ht.2 hyb.1 (by omega)
      obtain ⟨u, hu⟩ : ∃ u, addN p f g t k = u := ⟨_, rfl⟩
      have hmod : (t * y) % p = u := by rw [← hu]; unfold addN; rw [hfx, hgy, Int.zero_add]
      have HS := Lib.hid (take_snoc _ k u (by rw [addR_get p f g t (by rw [HL.out, HL'.out]; omega), hu]))
      have HM := Lib.hid hmod
      have HO := Lib.hid hown
      have HB := Lib.hid hbel
      have hs1 := hbel.size
      clear hown hbel hmod hu hfx hgy hy hyw
      go_wp2_with (fail)
      refine (l1Mod_is HM.out _ hp.1 hp.2).mono ?_
      rintro e w3 ⟨rfl, rfl⟩
      go_wp2_with (at_builtin; refine wpList_app_int rfl (.tmp 45) (.tmp 49) rfl w.heap.size A1 k c1 _ rfl (World.ownsRow.alloc HO.out _) u _ _ rfl ?_ (by omega) ?_ ?_)
      · simp
      · simp; omega
      · intro A3 c3 w4 hI4 hK4
        rw [HS.out] at hI4
        have HI4 := Lib.hid hI4
        have HB4 := Lib.hid ((HB.out.alloc hs1 (.cells #[.int .i64 u] 3)).trans (hK4.below (B := w.heap.size) (by simp; omega) (fun q hq => (HO.out.lt q hq).1)))
        clear hI4 hK4
        go_wp2_with (fail)
        go_roundw
        case rel => exact ⟨k + 1, _, _, by omega, by go_num, rfl, HI4.out, HB4.out⟩
        case measure => simp [intOf]; omega
    · obtain rfl : k = max n n' := by omega
      have e : (addR p f g t).take (max n n') = addR p f g t := List.take_of_length_le (by rw [addR_len, HL.out, HL'.out]; exact Nat.le_refl _)
      rw [e] at hown
      obtain ⟨m, hm⟩ : ∃ m, max n n' = m := ⟨_, rfl⟩
      rw [hm] at hown h1 h2 ⊢
      have hm2 : m ≤ 100000 := by omega
      obtain ⟨b1, hI, hA⟩ := OI.iaA hown
      have hcap := OI.capLe hown
      have HI := Lib.hid hI
      have HB := Lib.hid hbel
      clear e hown hI hbel
      obtain ⟨R, hR⟩ : ∃ R, addR p f g t = R := ⟨_, rfl⟩
      have HAL := Lib.hid (show addL p f g t = trimL R by rw [← hR]; rfl)
      rw [hR] at HI
      clear hR
      obtain ⟨T, hT⟩ : ∃ T, trimL R = T := ⟨_, rfl⟩
      have HT := Lib.hid hT
      clear hT
      go_wp2_with (fail)
      refine (specTrim A1 m c1 b1 0 R _ HI.out (by omega) hcap hA).mono ?_
      rw [HT.out]
      rintro e w3 ⟨A2, c2, rfl, hO2, hB2⟩
      go_wp2_with (fail)
      go_ret
      rw [HAL.out, HT.out]
      exact ⟨_, _, rfl, owns_mono hO2 HB.out.size, below_more HB.out hB2⟩
/-- a row and whether there is one -/
def MadeO (R : Option (List Int)) (w : World) (e : Ending) (w' : World) : Prop :=
  ∃ (A : Option Addr) (c : Nat), e = .returned (.tuple #[.slice A (R.getD []).length c, .bool R.isSome]) ∧ OI w' w.heap.size A (R.getD []).length c (R.getD []) ∧ Below w.heap.size w w'
theorem MadeO.no {w w1 : World} (hb : Below w.heap.size w w1) : MadeO none w (.returned (.tuple #[.slice (some ⟨w1.heap.size, 0, none⟩) 0 0, .bool false])) (w1.alloc (.cells #[] 3)) :=
  ⟨_, 0, rfl, owns_mono (OI.empty w1) hb.size, hb.alloc hb.size _⟩
def polAdd (p : Int) (f g : List Int) : Option (List Int) := if polB p f = true ∧ polB p g = true then some (addL p f g 1) else none
end Go.Proofs.Ytdecaokngedghaa
