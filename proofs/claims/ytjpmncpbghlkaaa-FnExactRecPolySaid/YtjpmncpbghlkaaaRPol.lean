/-
  The contracts of negativeBackwards, RecPoly.
-/
import Derived.Test.YtjpmncpbghlkaaaRes
import Derived.Test.YtjpmncpbghlkaaaSRt
namespace Go.Proofs.Ytjpmncpbghlkaaa
open Go.RowKit
/-- the numbers' negatives, the last one first -/
def negB (p : Int) (xs : List Int) : List Int := xs.reverse.map fun x => (p - x) % p
theorem negB_len (p : Int) (xs : List Int) : (negB p xs).length = xs.length := by simp [negB]
theorem negB_get {p : Int} {xs : List Int} {k m : Nat} {x : Int} (hx : xs[k]? = some x) (h : m + k + 1 = xs.length) : (negB p xs)[m]? = some ((p - x) % p) := by
  unfold negB
  rw [List.getElem?_map, List.getElem?_reverse (by omega), show xs.length - 1 - m = k by omega, hx]
  rfl
theorem recP_eq (p : Int) (T : List Int) : recP p T = negB p T ++ [1] := rfl
theorem unP_eq (p : Int) (f : List Int) : unP p f = negB p (f.take (f.length - 1)) := rfl
theorem back_set {G : List Int} {m : Nat} {g : Int} (hg : G[m]? = some g) : (List.replicate (m + 1) (0 : Int) ++ G.drop (m + 1)).set m g = List.replicate m 0 ++ G.drop m := by
  have hm := (List.getElem?_eq_some_iff.1 hg).1
  rw [List.set_append_left _ _ (by simp), List.drop_eq_getElem_cons hm, (List.getElem?_eq_some_iff.1 hg).2]
  rw [List.replicate_succ', List.set_append_right _ _ (by simp)]
  simp
set_option maxHeartbeats 1000000 in
theorem negBack_any (p : Int) (A : Option Addr) (n c b o : Nat) (xs : List Int) (w : World) (h : IA w A n b o xs) (hp : primeB p = true) (hv : ∀ x ∈ xs, numB p x = true) (hn : n ≤ 1000000) :
    Calls Try.prog 59 #[.int .i64 p, .slice A n c] w (MadeI n (negB p xs) w) := by
  have hpb := prime_ge hp
  have hlen := h.len
  have HL := Lib.hid hlen
  have H := Lib.hid h
  have HV := Lib.hid hv
  obtain ⟨G, hG⟩ : ∃ G, negB p xs = G := ⟨_, rfl⟩
  have hGl : G.length = n := by rw [← hG, negB_len, hlen]
  rw [hG]
  have HG := Lib.hid hG
  have HGL := Lib.hid hGl
  have hmk := run_make_row' (P := Try.prog) 23 3 (.int .i64 0) 8 Try.underlying23 infoInt rfl .i64 .i64 n (by omega) (by omega)
  clear h hlen hv hG hGl hp
  go_enter Try.func59, Try.ntmps59
  go_wp2_with (fail)
  go_loopw [13] (fun i wr => ∃ k : Nat, k ≤ n ∧ i = .int .i64 k ∧ OI wr w.heap.size (some ⟨w.heap.size, 0, none⟩) n n (List.replicate (n - k) 0 ++ G.drop (n - k)) ∧ Below w.heap.size w wr) (fun i _ => n - (intOf i).toNat)
  case atStart => exact ⟨0, by omega, rfl, by rw [Nat.sub_zero, List.drop_of_length_le (by have := HGL.out; omega)]; simpa using made_ints w n (by omega), (Below.refl _ _).alloc (Nat.le_refl _) _⟩
  case round =>
    obtain ⟨k, hk, rfl, hown, hbel⟩ := hrel
    by_cases hlt : k < n
    · obtain rfl := H.out.adr (by omega)
      obtain ⟨x, hx, hc⟩ := (H.out.below hbel).cell k hlt
      obtain ⟨m, hm⟩ : ∃ m : Nat, m + k + 1 = n := ⟨n - k - 1, by omega⟩
      have hxb := numB_bd (HV.out x (List.mem_of_getElem? hx))
      have hg : G[m]? = some ((p - x) % p) := by rw [← HG.out]; exact negB_get hx (by rw [HL.out]; exact hm)
      rw [show n - k = m + 1 by omega] at hown
      have hcell := World.ownsRow.cellAt hown m (by omega)
      have hfr := World.ownsRow.frozenAt hown m
      have hst := World.ownsRow.stored hown m (.int .i64 ((p - x) % p))
      rw [ints_set, back_set hg] at hst
      obtain ⟨v0, hv0⟩ : ∃ v0, wr.cell? ⟨w.heap.size, m, none⟩ = some v0 := by
        rw [hcell]; exact ⟨_, List.getElem?_eq_getElem (by have := HGL.out; simp [ints]; omega)⟩
      have hw1 : IntKind.i64.wrap ((n : Int) - 1) = (n : Int) - 1 := IntWalk.i64_in _ ⟨by omega, by omega⟩
      have hw2 : IntKind.i64.wrap ((n : Int) - 1 - (k : Int)) = (m : Int) := by rw [show (n : Int) - 1 - (k : Int) = (m : Int) by omega]; exact IntWalk.i64_in _ ⟨by omega, by omega⟩
      have hmn : m < n := by omega
      have HO := Lib.hid hst
      have HB := Lib.hid hbel
      have HX := Lib.hid hxb
      have HM := Lib.hid hm
      clear hx hcell hst hown hbel hg hxb hm
      go_wp2_with (go_at_call 77; refine (negative_any2 p x _ HX.out.2.2.1 HX.out.2.2.2 HX.out.1 HX.out.2.1).mono ?_; rintro e w' ⟨rfl, rfl⟩)
      go_roundw
      case rel =>
        refine ⟨k + 1, by omega, by go_num, ?_, HB.out.setCell (Nat.le_refl _) _⟩
        have e : (p - x) % p = -x % p := by simp
        rw [show n - (k + 1) = m by have := HM.out; omega, ← e]
        exact HO.out.1
      case measure => simp [intOf]; omega
    · obtain rfl : k = n := by omega
      have HO := Lib.hid hown
      clear hown
      go_wp2_with (fail)
      go_ret
      exact ⟨_, _, rfl, by have := HO.out; simpa using this, hbel⟩
def polyO (p : Int) (T F : List Int) : List Int := if recB p T F = true then recP p T else []
theorem polyO_len (p : Int) (T F : List Int) : (polyO p T F).length ≤ 1048576 := by
  unfold polyO
  split
  · rename_i h
    rw [recP_len]
    have := (recB_true h).2.1
    omega
  · simp
theorem implRecPoly (v : Value) (p : Int) (T F : List Int) (w : World) (h : RV w v p T F) :
    Calls Try.prog 31 #[v] w (MadeI (polyO p T F).length (polyO p T F) w) := by
  obtain ⟨A, n, c, b, o, A', n', c', b', o', rfl, g1, g2⟩ := h
  have hB0 : Below w.heap.size w (w.alloc (.cells #[.int .i64 p, .slice A n c, .slice A' n' c'] 25)) := (Below.refl _ w).alloc (Nat.le_refl _) _
  have HV0 := Lib.hid (show RV _ (.agg #[.int .i64 p, .slice A n c, .slice A' n' c']) p T F from ⟨_, _, _, _, _, _, _, _, _, _, rfl, g1.below hB0, g2.below hB0⟩)
  have H := Lib.hid g1
  have HL := Lib.hid g1.len
  have HZ := Lib.hid (box3 w (.int .i64 p) (.slice A n c) (.slice A' n' c') 25)
  have HB0 := Lib.hid hB0
  clear g1 g2 hB0
  rcases hv : recB p T F
  · have HV := Lib.hid hv
    have HE := Lib.hid (show polyO p T F = [] by unfold polyO; rw [if_neg (by simp [hv])])
    clear hv
    go_enter Try.func31, Try.ntmps31
    go_wp2_with (go_at_call 16; refine (implRecValid _ p T F _ HV0.out).mono ?_; rintro e w1 ⟨rfl, hB⟩; rw [HV.out]; have HB := Lib.hid hB; clear hB)
    go_ret
    rw [HE.out]
    exact ⟨none, 0, rfl, World.ownsRow_nil _ _ _ _, below_more HB0.out HB.out⟩
  obtain ⟨hp, h6, hl, hT, _⟩ := recB_true hv
  have HV := Lib.hid hv
  have HP := Lib.hid hp
  have HT := Lib.hid hT
  have HE := Lib.hid (show polyO p T F = negB p T ++ [1] by unfold polyO; rw [if_pos hv]; rfl)
  rw [HL.out] at h6
  clear hv hp hT hl
  go_enter Try.func31, Try.ntmps31
  go_wp2_with (go_at_call 16; refine (implRecValid _ p T F _ HV0.out).mono ?_; rintro e w1 ⟨rfl, hB⟩; rw [HV.out]; have k0 := (keep_of_below hB).cell HZ.out.1 (fun h => h); have k1 := (keep_of_below hB).cell HZ.out.2.1 (fun h => h); have HB := Lib.hid hB; clear hB)
  have hB1 := below_more HB0.out HB.out
  refine (negBack_any p A n c b o T _ (H.out.below hB1) HP.out HT.out (by omega)).mono ?_
  rintro e w3 ⟨A3, c3, rfl, hO, hB3⟩
  have HO := Lib.hid (owns_mono hO hB1.size)
  have HB3 := Lib.hid (below_more hB1 hB3)
  have hs3 := (below_more hB1 hB3).size
  clear hO hB3 hB1
  go_wp2_with (at_builtin; refine wpList_app_int rfl (.tmp 10) (.tmp 11) rfl w.heap.size A3 n c3 (negB p T) rfl (World.ownsRow.alloc HO.out _) 1 w3.heap.size 1 rfl (by simp [go_sem]) (by omega) (by simp; omega) ?_)
  intro A4 c4 w4 hO4 hK4
  have HO4 := Lib.hid hO4
  have HB4 := Lib.hid (show Below w.heap.size w w4 from HB3.out.trans (((keep_of_below ((Below.refl _ w3).alloc (Nat.le_refl _) (.cells #[.int .i64 1] 3)) |>.mono (T := fun k => (Value.slice A3 n c3).ownBlock = some k) (fun _ _ h => h.elim)).trans hK4).below hs3 (fun g hg => (HO.out.lt g hg).1)))
  clear hO4 hK4
  go_wp2_with (fail)
  go_ret
  rw [HE.out, List.length_append, negB_len, HL.out]
  exact ⟨_, _, rfl, HO4.out, HB4.out⟩
end Go.Proofs.Ytjpmncpbghlkaaa
