/-
  The contract of copyRows.
-/
import Derived.Test.YtcjpjcigjljplaaRed
import Derived.Test.YtcjpjcigjljplaaRules
namespace Go.Proofs.Ytcjpjcigjljplaa
open Go.RowKit
theorem copyRows_any (A : Option Addr) (n c b o l : Nat) (M : List (List Int)) (w : World) (h : RA w A n b o M) (hn : n ≤ 8) (hl1 : 1 ≤ l) (hl8 : l ≤ 9) (hr : ∀ row ∈ M, row.length = l) :
    Calls Try.prog 78 #[.slice A n c] w (MadeM n M w) := by
  have hlen := h.len
  have HL := Lib.hid hlen
  have H := Lib.hid h
  have HR := Lib.hid hr
  have hmk := run_make_row' (P := Try.prog) 26 23 (.slice none 0 0) 24 Try.underlying26 infoInts rfl .i64 .i64 n (by omega) (by omega)
  have hmk2 := run_make_row' (P := Try.prog) 23 3 (.int .i64 0) 8 Try.underlying23 infoInt rfl .i64 .i64 l (by omega) (by omega)
  clear h hlen hr
  go_enter Try.func78, Try.ntmps78
  go_wp2_with (fail)
  go_loopw [11] (fun i wr => ∃ (k : Nat) (vs : List Value), k ≤ n ∧ i = .int .i64 k ∧ Half wr w.heap.size n k M vs ∧ Below w.heap.size w wr) (fun i _ => n - (intOf i).toNat)
  case atStart => exact ⟨0, [], by omega, rfl, Half.start w n M (by omega), (Below.refl _ _).alloc (Nat.le_refl _) _⟩
  case round =>
    obtain ⟨k, vs, hk, rfl, hown, hbel⟩ := hrel
    obtain ⟨wo, rfl⟩ : ∃ wo : World, wo = wr := ⟨_, rfl⟩
    by_cases hlt : k < n
    · have hs0 := hbel.size
      have hB0 := (hown.out.lt w.heap.size rfl).2
      obtain rfl := H.out.adr (by omega)
      obtain ⟨row, A1, c1, b1, o1, hrw, hcw, hI⟩ := H.out.row k hlt
      have hc := (keep_of_below hbel).cell hcw (fun h => h)
      have hrl := HR.out row (List.mem_of_getElem? hrw)
      rw [hrl] at hc hI
      obtain rfl := hI.adr (by omega)
      have hmade := made_ints wo l (by omega)
      have hML := HL.out
      have hzl : (List.replicate l (0 : Int)).length = l := by simp
      have hst := (hown.congr (M' := M.set k (List.replicate l 0)) (fun r hr => List.getElem?_set_ne (by omega))).step hlt (by simp [hML]) ((Below.refl wo.heap.size wo).alloc (Nat.le_refl _) (.cells (madeCells #[.int .i64 0] l) 3))
        (row := List.replicate l 0) (A := some ⟨wo.heap.size, 0, none⟩) (c := l) (List.getElem?_set_self (by omega)) (by rw [hzl]; exact hmade)
      rw [hzl] at hst
      have heq := World.setCell_alloc_past (w := wo) (.cells (madeCells #[.int .i64 0] l) 3) w.heap.size k (.slice (some ⟨wo.heap.size, 0, none⟩) l l) hB0
      rw [heq] at hst
      have ho := World.ownsRow.alloc hown.out (.cells (madeCells #[.int .i64 0] l) 3)
      have hcell := World.ownsRow.cellAt ho k (by omega)
      have hfr := World.ownsRow.frozenAt ho k
      obtain ⟨v0, hv0⟩ : ∃ v0, (wo.alloc (.cells (madeCells #[.int .i64 0] l) 3)).cell? ⟨w.heap.size, k, none⟩ = some v0 := by
        rw [hcell]; exact ⟨_, List.getElem?_eq_getElem (by have := hown.vlen; simp; omega)⟩
      obtain ⟨v1, hv1⟩ : ∃ v1, wo.cell? ⟨w.heap.size, k, none⟩ = some v1 := by
        rw [World.ownsRow.cellAt hown.out k (by omega)]; exact ⟨_, List.getElem?_eq_getElem (by have := hown.vlen; simp; omega)⟩
      have hout := World.cell?_setCell_same _ _ (.slice (some ⟨wo.heap.size, 0, none⟩) l l) hv1
      have HB := Lib.hid (show Below w.heap.size w ((wo.setCell ⟨w.heap.size, k, none⟩ (.slice (some ⟨wo.heap.size, 0, none⟩) l l)).alloc (.cells (madeCells #[.int .i64 0] l) 3)) from heq ▸ (hbel.alloc hs0 _).setCell (Nat.le_refl _) _)
      have hvl := hown.vlen
      have hvk : (vs ++ [Value.slice (some ⟨wo.heap.size, 0, none⟩) l l])[k]? = some (.slice (some ⟨wo.heap.size, 0, none⟩) l l) := by
        rw [List.getElem?_append_right (by omega)]; simp [hvl]
      have hMk : (M.set k (List.replicate l (0 : Int)))[k]? = some (List.replicate l 0) := List.getElem?_set_self (by omega)
      obtain ⟨A3, c3, hv3, hI3⟩ := hst.1.row k _ (by omega) hMk
      rw [hvk, hzl] at hv3
      simp only [Option.some.injEq, Value.slice.injEq, true_and] at hv3
      obtain ⟨rfl, rfl⟩ := hv3
      rw [hzl] at hI3
      have HST := Lib.hid hst.1
      have HVK := Lib.hid hvk
      have HMK := Lib.hid hMk
      have HI3 := Lib.hid hI3
      have HI := Lib.hid hI
      have HRW := Lib.hid hrw
      have HRL := Lib.hid hrl
      clear hcell ho hst heq hmade hown hbel hrw hcw hI hrl hzl hvk hMk hI3 hML
      go_wp2_with (with_reducible refine wpList_cpy rfl (.tmp 25) (.tmp 26) rfl (w.heap.size + 1) wo.heap.size l l (List.replicate l 0) rfl HI3.out c1 b1 o1 row rfl (HI.out.below HB.out) ?_)
      intro w5 v5 hI5 hK5
      have hset := HST.out.setRow (new := row) (by omega) HMK.out (by simpa using HVK.out) (by simp [HRL.out]) (by simpa using hI5) (hK5.mono (fun q _ hq => by rw [hq]; rfl))
      rw [List.set_set] at hset
      have HS := Lib.hid (hset.congr (M' := M) (fun r _ => by
        by_cases e : r = k
        · subst e; rw [List.getElem?_set_self (by rw [HL.out]; exact hlt)]; exact HRW.out
        · exact (List.getElem?_set_ne (fun e' => e e'.symm)).symm))
      have HB5 := Lib.hid (HB.out.trans (hK5.below (B := w.heap.size) HB.out.size (fun q hq => by rw [hq]; exact hs0)))
      clear hset hI5 hK5
      go_wp2_with (fail)
      go_roundw
      case rel => exact ⟨k + 1, _, by omega, by go_num, HS.out, HB5.out⟩
      case measure => simp [intOf]; omega
    · obtain rfl : k = n := by omega
      have HO := Lib.hid (hown.done HL.out)
      clear hown
      go_wp2_with (fail)
      go_ret
      exact ⟨_, _, _, rfl, HO.out, hbel⟩
end Go.Proofs.Ytcjpjcigjljplaa
