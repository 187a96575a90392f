/-
  The contracts of the model's l1Copy and l1Mod.
-/
import Derived.Test.YtcjpjcigjljplaaRankI
import Derived.Test.YtcjpjcigjljplaaMod
namespace Go.Proofs.Ytcjpjcigjljplaa
open Go.RowKit
theorem specCopy (A : Option Addr) (n c b o l : Nat) (M : List (List Int)) (w : World) (h : RA w A n b o M) (hn : n ≤ 24) (hl1 : 1 ≤ l) (hl9 : l ≤ 9) (hr : ∀ row ∈ M, row.length = l) :
    Calls Try.prog 80 #[.slice A n c] w (MadeM n M w) := by
  have hlen := h.len
  have HL := Lib.hid hlen
  have H := Lib.hid h
  have HR := Lib.hid hr
  clear h hlen hr
  go_enter Try.func80, Try.ntmps80
  go_wp2_with (fail)
  go_loopw [3, 4] (fun v i wr => ∃ (k : Nat) (Ao : Option Addr) (co : Nat) (vs : List Value), k ≤ n ∧ i = .int .i64 k ∧ v = .slice Ao k co ∧ OM wr w.heap.size Ao k co (M.take k) vs ∧ Below w.heap.size w wr) (fun _ i _ => n - (intOf i).toNat)
  case atStart => exact ⟨0, _, _, [], by omega, rfl, rfl, OM.empty w, (Below.refl _ _).alloc (Nat.le_refl _) _⟩
  case round =>
    obtain ⟨k, Ao, co, vs, hk, rfl, rfl, hown, hbel⟩ := hrel
    obtain ⟨wo, rfl⟩ : ∃ wo : World, wo = wr := ⟨_, rfl⟩
    by_cases hlt : k < n
    · obtain rfl := H.out.adr (by omega)
      obtain ⟨row, A1, c1, b1, o1, hrw, hcw, hI⟩ := H.out.row k hlt
      have hc := (keep_of_below hbel).cell hcw (fun h => h)
      have hrl := HR.out row (List.mem_of_getElem? hrw)
      rw [hrl] at hc hI
      obtain rfl := hI.adr (by omega)
      have hs0 := hbel.size
      have HO := Lib.hid hown
      have HB := Lib.hid hbel
      have HI := Lib.hid hI
      have HS := Lib.hid (take_snoc M k row hrw)
      have HRL := Lib.hid hrl
      clear hown hbel hI hrw hrl hcw
      have hc0 : (wo.alloc (.cells #[] 3)).cell? ⟨b, o + k, none⟩ = some (.slice (some ⟨b1, o1, none⟩) l c1) := by rw [World.cell?_alloc_lt _ _ _ (cell_lt hc)]; exact hc
      go_wp2_with (at_builtin; refine wpList_app_ints rfl (.tmp 13) (.tmp 17) rfl wo.heap.size _ 0 0 [] rfl (OI.empty wo) l c1 b1 o1 row rfl (HI.out.below (HB.out.alloc hs0 _)) (by omega) (by simp) ?_)
      intro A2 c2 w2 hI2 hK2
      have HI2 := Lib.hid (show OI w2 wo.heap.size A2 l c2 row by simpa using hI2)
      have hB2 : Below wo.heap.size wo w2 := ((Below.refl _ _).alloc (Nat.le_refl _) _).trans (hK2.below (by simp) (fun q hq => by simp [Value.ownBlock] at hq; omega))
      have HB2 := Lib.hid hB2
      have hs2 := hB2.size
      clear hI2 hK2 hB2
      go_wp2_with (at_builtin; refine wpList_app_row rfl (.tmp 12) (.tmp 19) rfl w.heap.size Ao k co vs rfl (World.ownsRow.alloc (owns_below HO.out.out HB2.out) _) A2 l c2 _ _ rfl ?_ (by omega) ?_ ?_)
      · simp
      · simp; omega
      · intro A3 c3 w3 ho3 hK3
        have hp := HO.out.push (HB2.out.alloc hs2 (.cells #[.slice A2 l c2] 23)) (row := row) (A1 := A2) (c1 := c2) (by rw [HRL.out]; exact HI2.out.alloc _) (by rw [HRL.out]; exact ho3) hK3 hs0
        rw [HS.out] at hp
        have HP := Lib.hid hp
        have HB3 := Lib.hid (HB.out.trans (((HB2.out.alloc hs2 (.cells #[.slice A2 l c2] 23)).mono hs0).trans (hK3.below (B := w.heap.size) (by simp; omega) (fun q hq => (HO.out.out.lt q hq).1))))
        clear hp ho3 hK3
        go_wp2_with (fail)
        go_roundw
        case rel => exact ⟨k + 1, _, _, _, by omega, by go_num, rfl, HP.out, HB3.out⟩
        case measure => simp [intOf]; omega
    · obtain rfl : k = n := by omega
      have e : M.take k = M := List.take_of_length_le (by rw [HL.out]; omega)
      rw [e] at hown
      have HO := Lib.hid hown
      clear e hown
      go_wp2_with (fail)
      go_ret
      exact ⟨_, _, _, rfl, HO.out, hbel⟩
end Go.Proofs.Ytcjpjcigjljplaa
