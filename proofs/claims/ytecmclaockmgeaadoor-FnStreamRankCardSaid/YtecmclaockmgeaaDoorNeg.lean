/-
  The contract of terms.negative.
-/
import Derived.Test.YtecmclaockmgeaaDoorPl
namespace Go.Proofs.YtecmclaockmgeaaDoor
open Go.RowKit
def negL (p : Int) (f : List Int) : List Int := f.map (fun x => (p - x) % p)
theorem negL_len (p : Int) (f : List Int) : (negL p f).length = f.length := by simp [negL]
set_option maxRecDepth 100000 in
set_option maxHeartbeats 2000000 in
theorem neg_any (p : Int) (A : Option Addr) (n c b : Nat) (f : List Int) (w : World) (h : IT w A n c b p f) (hf : ∀ x ∈ f, numB p x = true) (hn : n ≤ 100000) :
    Calls Tryd.prog 98 #[.slice A n c] w (MadeT p (negL p f) w) := by
  have HL := Lib.hid h.len
  have H := Lib.hid h
  have HF := Lib.hid hf
  have hcap := h.capn
  have hmk := run_make_two (P := Tryd.prog) 67 71 (.int .i64 0) (.int .i64 0) 16 Tryd.underlying67 infoRes .i64 .i64 n (by omega) (by omega)
  clear h hf
  go_enter Tryd.func98, Tryd.ntmps98
  go_wp2_with (fail)
  go_loopw [11] (fun i wr => ∃ k : Nat, k ≤ n ∧ i = .int .i64 k ∧ OZ wr w.heap.size (some ⟨w.heap.size, 0, none⟩) n n ((wp p (negL p f)).take k ++ List.replicate (n - k) (0, 0)) ∧ Below w.heap.size w wr) (fun i _ => n - (intOf i).toNat)
  case atStart => exact ⟨0, by omega, rfl, by simpa using made_two w n (by omega), (Below.refl _ _).alloc (Nat.le_refl _) _⟩
  case round =>
    obtain ⟨k, hk, rfl, hown, hbel⟩ := hrel
    by_cases hlt : k < n
    · obtain rfl : A = some ⟨b, 0, none⟩ := by rcases H.out.adr with ⟨_, h1, _⟩ | h1 <;> first | omega | exact h1
      obtain ⟨x, hx, hxp, hxc⟩ := (H.out.below hbel).cell k hlt
      have hlz := OZ.len hown
      have hsz := hbel.size
      have hw0 : w.heap.size < wr.heap.size := by
        rcases OZ.adr hown with ⟨h1, _⟩ | ⟨g, h1, _, h3, _⟩
        · cases h1
        · cases h1; exact h3
      have HXV := Lib.hid (HF.out x (List.mem_of_getElem? hx))
      have HO := Lib.hid hown
      have HB := Lib.hid hbel
      obtain ⟨z, hz⟩ : ∃ z, ((wp p (negL p f)).take k ++ List.replicate (n - k) (0, 0))[k]? = some z := ⟨_, List.getElem?_eq_getElem (by omega)⟩
      obtain ⟨g1, g2⟩ := two_get _ _ _ hz
      have hlt2 : k * 2 + 1 < 2 * n := by omega
      obtain ⟨v, hv⟩ : ∃ v, (p - x) % p = v := ⟨_, rfl⟩
      have HVV := Lib.hid hv
      have HNG := Lib.hid (wp_get (p := p) (show (negL p f)[k]? = some v by rw [← hv]; unfold negL; rw [List.getElem?_map, hx]; rfl))
      have HG1 := Lib.hid g1
      have HG2 := Lib.hid g2
      clear hx hown hbel hlz hz g1 g2 hv
      go_wp2_with (fail)
      refine (res_negative p x _ HXV.out).mono ?_
      rw [HVV.out]
      rintro e w' ⟨rfl, hB⟩
      have hbb : Below wr.heap.size wr w' := ((Below.refl wr.heap.size wr).alloc (Nat.le_refl _) _).trans (hB.mono (by simp))
      have HO2 := OZ.below HO.out hbb
      have hst := HO2.put k p v
      rw [two_mix (by rw [wp_len, negL_len, HL.out]) HNG.out] at hst
      have hc1 : w'.cell? ⟨w.heap.size, k * 2, none⟩ = some (.int .i64 z.1) := by rw [World.ownsRow.cellAt HO2 _ (by omega)]; exact HG1.out
      have hc2 : w'.cell? ⟨w.heap.size, k * 2 + 1, none⟩ = some (.int .i64 z.2) := by rw [World.ownsRow.cellAt HO2 _ (by omega)]; exact HG2.out
      have hf1 := World.ownsRow.frozenAt HO2 (k * 2)
      have hf2 := World.ownsRow.frozenAt HO2 (k * 2 + 1)
      have HST := Lib.hid hst
      have HB2 := Lib.hid (below_more HB.out hbb)
      clear hst HO2 hbb hB
      go_wp2_with (fail)
      go_roundw
      case rel => exact ⟨k + 1, by omega, by go_num, HST.out, (HB2.out.setCell (Nat.le_refl _) _).setCell (Nat.le_refl _) _⟩
      case measure => simp [intOf]; omega
    · have e : (wp p (negL p f)).take k ++ List.replicate (n - k) (0, 0) = wp p (negL p f) := by
        rw [show n - k = 0 by omega, List.take_of_length_le (by rw [wp_len, negL_len, HL.out]; omega)]; simp
      rw [e] at hown
      have HO := Lib.hid hown
      clear e hown
      go_wp2_with (fail)
      go_ret
      exact ⟨_, _, by rw [negL_len, HL.out]; rfl, by rw [negL_len, HL.out]; exact HO.out, hbel⟩
end Go.Proofs.YtecmclaockmgeaaDoor
