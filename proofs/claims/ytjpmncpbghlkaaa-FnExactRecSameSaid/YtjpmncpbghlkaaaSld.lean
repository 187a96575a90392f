/-
  The contract of slide: the window one place later.
-/
import Derived.Test.YtjpmncpbghlkaaaStm
import Derived.Test.YtjpmncpbghlkaaaRc
import Derived.Laws.IdiomCopy
namespace Go.Proofs.Ytjpmncpbghlkaaa
open Go.RowKit
/-- a window's value -/
def wval (f : Nat → Int) : Value := .agg #[.int .i64 (f 0), .int .i64 (f 1), .int .i64 (f 2), .int .i64 (f 3), .int .i64 (f 4), .int .i64 (f 5)]
/-- the window at place k -/
def wf (p : Int) (T F : List Int) (k i : Nat) : Int := if i < T.length then stm p T F (k + i) else 0
/-- the sum of so many products, the last number first -/
def slS (T : List Int) (f : Nat → Int) (d m : Nat) : Int := sigN m (fun j => co T j * f (d - 1 - j))
theorem slS_bd {p : Int} {T F : List Int} (h : recB p T F = true) (k m : Nat) (hm : m ≤ T.length) : 0 ≤ slS T (wf p T F k) T.length m ∧ slS T (wf p T F k) T.length m ≤ 169 * (m : Int) := by
  obtain ⟨hp, h6, hl, hT, hF⟩ := recB_true h
  refine sigN_bd fun j hj => ?_
  have h1 := numB_bd (co_num hT (show j < T.length by omega))
  have h2 := numB_bd (stm_num h (k + (T.length - 1 - j)))
  unfold wf
  rw [if_pos (by omega)]
  exact mul_bd h1.1 (by omega) h2.1 (by omega)
theorem slS_end {p : Int} {T F : List Int} (h : recB p T F = true) (k : Nat) : slS T (wf p T F k) T.length T.length % p = stm p T F (k + T.length) := by
  obtain ⟨hp, h6, hl, hT, hF⟩ := recB_true h
  rw [stm_next p T F hl (by omega)]
  congr 1
  refine sigN_congr fun j hj => ?_
  unfold wf
  rw [if_pos (by omega), show k + (T.length - 1 - j) = k + T.length - 1 - j by omega]
set_option maxRecDepth 100000 in
set_option maxHeartbeats 2000000 in
theorem slide_any (p : Int) (T F : List Int) (A : Option Addr) (n c b o : Nat) (A' : Option Addr) (n' c' : Nat) (k : Nat) (w : World) (h : IA w A n b o T) (hn' : n' = n) (hv : recB p T F = true) :
    Calls Try.prog 87 #[.agg #[.int .i64 p, .slice A n c, .slice A' n' c'], wval (wf p T F k)] w fun e w' => e = .returned (wval (wf p T F (k + 1))) ∧ Below w.heap.size w w' := by
  subst hn'
  obtain ⟨hp, h6, hl, hT, hF⟩ := recB_true hv
  have hpb := prime_ge hp
  have hbig := h.big
  have hlen := h.len
  obtain ⟨f, hf⟩ : ∃ f, wf p T F k = f := ⟨_, rfl⟩
  obtain ⟨g, hg⟩ : ∃ g, wf p T F (k + 1) = g := ⟨_, rfl⟩
  rw [hf, hg]
  unfold wval
  have HG := Lib.hid hg
  have HFF := Lib.hid hf
  have HV := Lib.hid hv
  have HT := Lib.hid hT
  have HL := Lib.hid hlen
  have H := Lib.hid h
  rw [hlen] at h6
  clear hg hf hv hT hF hl h hlen hp
  by_cases h0 : n' = 0
  · subst h0
    go_enter Try.func87, Try.ntmps87
    go_wp2_with (fail)
    have HB := Lib.hid (show Below w.heap.size w (((w.alloc (.cells #[.int .i64 p, .slice A 0 c, .slice A' 0 c'] 25)).alloc (.cells #[.int .i64 (f 0), .int .i64 (f 1), .int .i64 (f 2), .int .i64 (f 3), .int .i64 (f 4), .int .i64 (f 5)] 80)).alloc (.cells #[.int .i64 (f 0), .int .i64 (f 1), .int .i64 (f 2), .int .i64 (f 3), .int .i64 (f 4), .int .i64 (f 5)] 80)) from (((Below.refl _ w).alloc (Nat.le_refl _) _).alloc (by simp) _).alloc (by simp; omega) _)
    have hfg : f = g := by
      rw [← HFF.out, ← HG.out]
      funext i
      unfold wf
      rw [if_neg (by rw [HL.out]; omega), if_neg (by rw [HL.out]; omega)]
    subst hfg
    refine bodyPost_ret (v := .agg #[.int .i64 (f 0), .int .i64 (f 1), .int .i64 (f 2), .int .i64 (f 3), .int .i64 (f 4), .int .i64 (f 5)]) (by simp [results, Try.f87, go_sem]) rfl ⟨rfl, HB.out⟩
  · go_enter Try.func87, Try.ntmps87
    have hw1 : IntKind.i64.wrap ((n' : Int) - 1) = (n' : Int) - 1 := IntWalk.i64_in _ ⟨by omega, by omega⟩
    go_wp2_with (fail)
    obtain ⟨W0, hW0⟩ : ∃ W0, (((w.alloc (.cells #[.int .i64 p, .slice A n' c, .slice A' n' c'] 25)).alloc (.cells #[.int .i64 (f 0), .int .i64 (f 1), .int .i64 (f 2), .int .i64 (f 3), .int .i64 (f 4), .int .i64 (f 5)] 80)).alloc (.cells #[.int .i64 0, .int .i64 0, .int .i64 0, .int .i64 0, .int .i64 0, .int .i64 0] 80)) = W0 := ⟨_, rfl⟩
    have hB0 : Below w.heap.size w W0 := by rw [← hW0]; exact (((Below.refl _ w).alloc (Nat.le_refl _) _).alloc (by simp) _).alloc (by simp; omega) _
    have hs0 : W0.heap.size = w.heap.size + 3 := by rw [← hW0]; simp [go_sem]
    have zp : W0.cell? ⟨w.heap.size, 0, none⟩ = some (.int .i64 p) := by rw [← hW0]; simp [go_sem]
    have zf : ∀ j, j < 6 → W0.cell? ⟨w.heap.size + 1, j, none⟩ = some (.int .i64 (f j)) := by
      intro j hj
      rw [← hW0]
      have : j = 0 ∨ j = 1 ∨ j = 2 ∨ j = 3 ∨ j = 4 ∨ j = 5 := by omega
      rcases this with rfl | rfl | rfl | rfl | rfl | rfl <;> simp [go_sem]
    have zg : ∀ j, j < 6 → W0.cell? ⟨w.heap.size + 1 + 1, j, none⟩ = some (.int .i64 0) := by
      intro j hj
      rw [← hW0]
      have : j = 0 ∨ j = 1 ∨ j = 2 ∨ j = 3 ∨ j = 4 ∨ j = 5 := by omega
      rcases this with rfl | rfl | rfl | rfl | rfl | rfl <;> simp [go_sem]
    have zz : ∀ j, W0.frozen? ⟨w.heap.size + 1, j, none⟩ = false := by intro j; rw [← hW0]; simp [go_sem]
    have zy : ∀ j, W0.frozen? ⟨w.heap.size + 1 + 1, j, none⟩ = false := by intro j; rw [← hW0]; simp [go_sem]
    have H0 := Lib.hid (H.out.below hB0)
    have HB0 := Lib.hid hB0
    have ZF := Lib.hid zf
    rw [hW0]
    clear hW0 hB0 zf
    have hbd := fun m => slS_bd HV.out k m
    rw [HFF.out, HL.out] at hbd
    go_loop [6, 19] (fun s i => ∃ m : Nat, m ≤ n' ∧ i = .int .i64 m ∧ s = .int .i64 (slS T f n' m)) (fun _ i => n' - (intOf i).toNat)
    case atStart => exact ⟨0, by omega, rfl, rfl⟩
    case round =>
      obtain ⟨m, hm, rfl, rfl⟩ := hrel
      obtain ⟨S, hS⟩ : ∃ S, slS T f n' m = S := ⟨_, rfl⟩
      have hSb := hbd m hm
      rw [hS] at hSb ⊢
      by_cases hlt : m < n'
      · obtain ⟨q, hq⟩ : ∃ q : Nat, q + m + 1 = n' := ⟨n' - m - 1, by omega⟩
        obtain rfl := H0.out.adr (by omega)
        obtain ⟨t, ht, hc⟩ := H0.out.cell m hlt
        have htb := numB_bd (HT.out t (List.mem_of_getElem? ht))
        have hfq := ZF.out q (by omega)
        have hqb := numB_bd (stm_num HV.out (k + q))
        have hfe : f q = stm p T F (k + q) := by rw [← HFF.out]; unfold wf; rw [if_pos (by rw [HL.out]; omega)]
        rw [← hfe] at hqb
        obtain ⟨y, hy⟩ : ∃ y, f q = y := ⟨_, rfl⟩
        rw [hy] at hfq hqb
        have hmb := mul_bd htb.1 (by omega) hqb.1 (by omega)
        have hw2 : IntKind.i64.wrap ((n' : Int) - 1 - (m : Int)) = (q : Int) := by rw [show (n' : Int) - 1 - (m : Int) = (q : Int) by omega]; exact IntWalk.i64_in _ ⟨by omega, by omega⟩
        have hw3 : IntKind.i64.wrap (t * y) = t * y := IntWalk.i64_in _ ⟨by omega, by omega⟩
        have hw4 : IntKind.i64.wrap (S + t * y) = S + t * y := IntWalk.i64_in _ ⟨by omega, by omega⟩
        have HST := Lib.hid (show slS T f n' (m + 1) = S + t * y by
          show sigN m _ + co T m * f (n' - 1 - m) = _
          rw [show n' - 1 - m = q by omega, hy, show co T m = t from getD_at ht, ← hS]; rfl)
        have hq6 : q < 6 := by omega
        clear ht hfe hy hS
        go_wp2_with (fail)
        go_round
        case rel => exact ⟨m + 1, by omega, by go_num, by rw [HST.out]⟩
        case measure => simp [intOf]; omega
      · obtain rfl : m = n' := by omega
        have hcs : (ints [f 1, f 2, f 3, f 4, f 5]).length = Nat.min 5 6 := rfl
        have zs : ∀ j v, (ints [f 1, f 2, f 3, f 4, f 5])[j]? = some v → W0.cell? ((⟨w.heap.size + 1, 1, none⟩ : Addr).add j) = some v := by
          intro j v hv
          have hj : j < 5 := by have := (List.getElem?_eq_some_iff.1 hv).1; simpa [ints] using this
          rw [addrAdd _ _ rfl]
          show W0.cell? ⟨w.heap.size + 1, 1 + j, none⟩ = _
          rw [ZF.out (1 + j) (by omega)]
          have : j = 0 ∨ j = 1 ∨ j = 2 ∨ j = 3 ∨ j = 4 := by omega
          rcases this with rfl | rfl | rfl | rfl | rfl <;> simpa [ints] using hv
        obtain ⟨W1, hW1⟩ : ∃ W1, W0.drew.setCells (w.heap.size + 1) 0 (ints [f 1, f 2, f 3, f 4, f 5]) = W1 := ⟨_, rfl⟩
        have hiso : ∀ j, j < (ints [f 1, f 2, f 3, f 4, f 5]).length → (W0.drew.cell? ⟨w.heap.size + 1, 0 + j, none⟩).isSome = true := fun j hj => by
          rw [Nat.zero_add]
          show (W0.cell? _).isSome = true
          rw [ZF.out j (by have : j < 5 := hj; omega)]; rfl
        have hcp := run_copy_cells (P := Try.prog) W0.drew 23 23 3 3 (w.heap.size + 1) 0 6 6 ⟨w.heap.size + 1, 1, none⟩ 5 5 (ints [f 1, f 2, f 3, f 4, f 5]) Try.underlying23 (by kernel_rfl) hcs zs hiso (fun j hj => zz _) (by intro v hv; simp [ints] at hv; rcases hv with rfl | rfl | rfl | rfl | rfl <;> rfl)
        rw [hW1] at hcp
        have yp : W1.cell? ⟨w.heap.size, 0, none⟩ = some (.int .i64 p) := by rw [← hW1, World.cell?_setCells_out _ _ _ _ _ (fun h => absurd h (by simp))]; exact zp
        have yf : ∀ j, j < 6 → W1.cell? ⟨w.heap.size + 1, j, none⟩ = some (.int .i64 (if j < 5 then f (j + 1) else f j)) := by
          intro j hj
          rw [← hW1]
          by_cases h5 : j < 5
          · rw [if_pos h5]
            have := World.cell?_setCells_in (w.heap.size + 1) (ints [f 1, f 2, f 3, f 4, f 5]) 0 W0.drew hiso j h5
            rw [Nat.zero_add] at this
            rw [this]
            have : j = 0 ∨ j = 1 ∨ j = 2 ∨ j = 3 ∨ j = 4 := by omega
            rcases this with rfl | rfl | rfl | rfl | rfl <;> rfl
          · rw [if_neg h5, World.cell?_setCells_out _ _ _ _ _ (fun _ _ => .inr (by show 0 + 5 ≤ j; omega))]
            exact ZF.out j hj
        have yg : ∀ j, j < 6 → W1.cell? ⟨w.heap.size + 1 + 1, j, none⟩ = some (.int .i64 0) := by
          intro j hj
          rw [← hW1, World.cell?_setCells_out _ _ _ _ _ (fun h => absurd h (by simp))]; exact zg j hj
        have fz : ∀ a, W1.frozen? a = W0.frozen? a := fun a => by rw [← hW1, World.frozen?_setCells]; rfl
        have yz : ∀ j, W1.frozen? ⟨w.heap.size + 1, j, none⟩ = false := fun j => (fz _).trans (zz j)
        have yy : ∀ j, W1.frozen? ⟨w.heap.size + 1 + 1, j, none⟩ = false := fun j => (fz _).trans (zy j)
        have hB1 : Below w.heap.size w W1 := by
          rw [← hW1]
          exact (((((HB0.out.drew.setCell (p := ⟨w.heap.size + 1, 0, none⟩) (show w.heap.size ≤ w.heap.size + 1 by omega) _).setCell (p := ⟨w.heap.size + 1, 1, none⟩) (show w.heap.size ≤ w.heap.size + 1 by omega) _).setCell (p := ⟨w.heap.size + 1, 2, none⟩) (show w.heap.size ≤ w.heap.size + 1 by omega) _).setCell (p := ⟨w.heap.size + 1, 3, none⟩) (show w.heap.size ≤ w.heap.size + 1 by omega) _).setCell (p := ⟨w.heap.size + 1, 4, none⟩) (show w.heap.size ≤ w.heap.size + 1 by omega) _)
        have HB1 := Lib.hid hB1
        have hSm := slS_end HV.out k
        rw [HFF.out, HL.out, hS] at hSm
        have HSM := Lib.hid hSm
        clear zs hW1 hiso fz hB1 hSm
        go_wp2_with (fail)
        go_region
        obtain ⟨q, hq⟩ : ∃ q : Nat, q + 1 = m := ⟨m - 1, by omega⟩
        have hqi : (m : Int) - 1 = (q : Int) := by omega
        have hq6 : q < 6 := by omega
        have hp0 : p ≠ 0 := by omega
        have yq := yf q hq6
        have yzq := yz q
        obtain ⟨W2, hW2⟩ : ∃ W2, W1.setCell ⟨w.heap.size + 1, q, none⟩ (.int .i64 (S % p)) = W2 := ⟨_, rfl⟩
        have xf : ∀ j, j < 6 → W2.cell? ⟨w.heap.size + 1, j, none⟩ = some (.int .i64 (g j)) := by
          intro j hj
          rw [← hW2]
          by_cases e : j = q
          · subst e
            rw [World.cell?_setCell_same' _ _ _ (by rw [yq]; rfl)]
            have : g j = S % p := by
              rw [← HG.out, HSM.out]
              unfold wf
              rw [if_pos (by rw [HL.out]; omega), show k + 1 + j = k + m by omega]
            rw [this]
          · rw [World.cell?_setCell_other _ _ _ _ (by intro h; cases h; exact e rfl), yf j hj]
            have : g j = if j < 5 then f (j + 1) else f j := by
              rw [← HG.out, ← HFF.out]
              unfold wf
              by_cases h1 : j < q
              · rw [if_pos (show j < T.length by rw [HL.out]; omega), if_pos (show j < 5 by omega), if_pos (show j + 1 < T.length by rw [HL.out]; omega), show k + 1 + j = k + (j + 1) by omega]
              · rw [if_neg (show ¬ j < T.length by rw [HL.out]; omega)]
                split
                · rw [if_neg (by rw [HL.out]; omega)]
                · rw [if_neg (by rw [HL.out]; omega)]
            rw [this]
        have xg : ∀ j, j < 6 → W2.cell? ⟨w.heap.size + 1 + 1, j, none⟩ = some (.int .i64 0) := by
          intro j hj
          rw [← hW2, World.cell?_setCell_other _ _ _ _ (by intro h; simp at h)]; exact yg j hj
        have xz : ∀ j, W2.frozen? ⟨w.heap.size + 1 + 1, j, none⟩ = false := by intro j; rw [← hW2, World.frozen?_setCell]; exact yy j
        have HB2 := Lib.hid (show Below w.heap.size w W2 by rw [← hW2]; exact HB1.out.setCell (p := ⟨w.heap.size + 1, q, none⟩) (show w.heap.size ≤ w.heap.size + 1 by omega) _)
        have x0 := xf 0 (by omega)
        have x1 := xf 1 (by omega)
        have x2 := xf 2 (by omega)
        have x3 := xf 3 (by omega)
        have x4 := xf 4 (by omega)
        have x5 := xf 5 (by omega)
        have u0 := xg 0 (by omega)
        have u1 := xg 1 (by omega)
        have u2 := xg 2 (by omega)
        have u3 := xg 3 (by omega)
        have u4 := xg 4 (by omega)
        have u5 := xg 5 (by omega)
        clear xf xg yf yg yz yy zg zz zy zp hq
        go_wp2_with (fail)
        have HB3 := Lib.hid ((((((HB2.out.setCell (p := ⟨w.heap.size + 1 + 1, 0, none⟩) (show w.heap.size ≤ w.heap.size + 1 + 1 by omega) (.int .i64 (g 0))).setCell (p := ⟨w.heap.size + 1 + 1, 1, none⟩) (show w.heap.size ≤ w.heap.size + 1 + 1 by omega) (.int .i64 (g 1))).setCell (p := ⟨w.heap.size + 1 + 1, 2, none⟩) (show w.heap.size ≤ w.heap.size + 1 + 1 by omega) (.int .i64 (g 2))).setCell (p := ⟨w.heap.size + 1 + 1, 3, none⟩) (show w.heap.size ≤ w.heap.size + 1 + 1 by omega) (.int .i64 (g 3))).setCell (p := ⟨w.heap.size + 1 + 1, 4, none⟩) (show w.heap.size ≤ w.heap.size + 1 + 1 by omega) (.int .i64 (g 4))).setCell (p := ⟨w.heap.size + 1 + 1, 5, none⟩) (show w.heap.size ≤ w.heap.size + 1 + 1 by omega) (.int .i64 (g 5)))
        refine bodyPost_ret (v := .agg #[.int .i64 (g 0), .int .i64 (g 1), .int .i64 (g 2), .int .i64 (g 3), .int .i64 (g 4), .int .i64 (g 5)]) (by simp [results, Try.f87, go_sem, u0, u1, u2, u3, u4, u5]) rfl ⟨rfl, HB3.out⟩
end Go.Proofs.Ytjpmncpbghlkaaa
