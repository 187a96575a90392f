/-
  The contracts of beginning, FracTerms of the program.
-/
import Derived.Deep.RegionHeld3
import Derived.Laws.CopyOwn
import Derived.Test.YtllakclbgmingaaDoorFrW
import Derived.Test.YtllakclbgmingaaDoorFrTM
namespace Go.Proofs.YtllakclbgmingaaDoor
open Go.RowKit
theorem begL_eq (U : List Int) (m : Nat) : begL U m = U.take m ++ List.replicate (m - U.length) 0 := by
  refine list_of_co (by rw [begL_len, List.length_append, List.length_take, List.length_replicate]; omega) (fun k hk => ?_)
  rw [begL_len] at hk
  rw [co_begL U hk, co_append, List.length_take]
  by_cases h : k < min m U.length
  · rw [if_pos h, co_take (by omega)]
  · rw [if_neg h, co_far (f := U) (by omega)]
    unfold co
    rw [List.getD_eq_getElem?_getD, List.getElem?_replicate]
    split <;> rfl
theorem oi_heap {w : World} {g B n : Nat} {xs : List Int} (hb : B ≤ g) (hg : w.heap[g]? = some (.cells (ints xs).toArray 3 (0, 0))) (hl : xs.length = n) (hn : n ≤ 1000000) : OI w B (some ⟨g, 0, none⟩) n n xs := by
  refine ⟨by rw [ints_len, hl]; omega, .inr ⟨g, n, _, rfl, hb, hg, Nat.le_refl _, by unfold maxLen; omega, ?_, ?_⟩⟩
  · simp [ints_len, hl]
  · simp [ints_len, hl, List.take_of_length_le]
set_option maxRecDepth 100000 in
set_option maxHeartbeats 1000000 in
theorem beginning_any (A : Option Addr) (n c b o : Nat) (U : List Int) (m : Nat) (w : World) (h : IA w A n b o U) (hm : m ≤ 1000) :
    Calls Tryd.prog 36 #[.slice A n c, .int .i64 m] w (MadeI (begL U m).length (begL U m) w) := by
  have hl := h.len
  have hbig := h.big
  have hmk := run_make_row' (P := Tryd.prog) 23 3 (.int .i64 0) 8 Tryd.underlying23 infoInt rfl .i64 .i64 m (by omega) (by omega)
  have H := Lib.hid h
  clear h
  have hmc : (madeCells #[.int .i64 0] m) = (List.replicate m (Value.int .i64 0)).toArray := by rw [← madeCells_one (.int .i64 0) m]
  have hg0 : (w.alloc (.cells (madeCells #[.int .i64 0] m) 3)).heap[w.heap.size]? = some (.cells (List.replicate m (Value.int .i64 0)).toArray 3 (0, 0)) := by rw [hmc]; exact Array.getElem?_push_size
  have HG0 := Lib.hid hg0
  obtain ⟨cs, hcs⟩ : ∃ cs, ints (U.take m) = cs := ⟨_, rfl⟩
  have hcl : cs.length = Nat.min n m := by rw [← hcs, ints_len, List.length_take, hl]; exact Nat.min_comm _ _
  have HCL := Lib.hid hcl
  have HC := Lib.hid hcs
  have HL := Lib.hid hl
  have HB0 := Lib.hid (below_new w (.cells (madeCells #[.int .i64 0] m) 3))
  have hpos : 0 < cs.length → ((some ⟨w.heap.size, 0, none⟩ : Option Addr) = some ⟨w.heap.size, 0, none⟩) ∧ ∃ ad, A = some ad ∧ ∀ j v, cs[j]? = some v → (w.alloc (.cells (madeCells #[.int .i64 0] m) 3)).cell? (ad.add j) = some v := fun h => by
    have hn : 0 < n := by rw [hcl] at h; exact Nat.lt_of_lt_of_le h (Nat.min_le_left _ _)
    have hI := H.out.below HB0.out
    obtain rfl := hI.adr hn
    refine ⟨rfl, _, rfl, fun j v hv => hI.src j v ?_⟩
    rw [← hcs] at hv
    unfold ints at hv ⊢
    rw [List.getElem?_map, List.getElem?_take] at hv
    rw [List.getElem?_map]
    split at hv
    · exact hv
    · cases hv
  have HP := Lib.hid hpos
  clear hg0 hmc hcl hcs hl hpos
  go_enter Tryd.func36, Tryd.ntmps36
  go_wp2_with (with_reducible refine wpList_copy_splice rfl (.tmp 8) (.tmp 9) 23 23 rfl 3 Tryd.underlying23 infoSize _ A m m n c rfl rfl w.heap.size 0 (List.replicate m (.int .i64 0)) 3 HG0.out cs HCL.out HP.out (by rw [HCL.out, List.length_replicate]; exact (Nat.zero_add _).symm ▸ Nat.min_le_right _ _) (by rw [← HC.out]; exact ints_one _) w.heap.size w HB0.out (Nat.le_refl _) ?_)
  intro w2 hg2 hb2
  have HB2 := Lib.hid hb2
  clear hb2
  go_wp2_with (fail)
  go_ret
  have he : splice (List.replicate m (Value.int .i64 0)) 0 cs = ints (begL U m) := by
    unfold splice
    rw [← HC.out, begL_eq]
    simp only [List.take_zero, List.nil_append, Nat.zero_add, ints, List.map_append, List.map_replicate, List.length_map, List.length_take]
    rw [List.drop_replicate]
    congr 2
    omega
  have h2 := hg2.out
  rw [he] at h2
  exact ⟨_, _, by rw [begL_len]; rfl, by rw [begL_len]; exact oi_heap (Nat.le_refl _) h2 (begL_len _ _) (by omega), HB2.out⟩
end Go.Proofs.YtllakclbgmingaaDoor
