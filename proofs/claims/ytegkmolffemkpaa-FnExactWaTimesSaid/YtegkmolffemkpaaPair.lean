/-
  Products of rows and of matrices, number by number of one with all of the other: what they are; the contracts of pairProducts, pairRows, l6Pairs and l6Tensor.
-/
import Derived.Deep.RegionHeld3
import Derived.Deep.RegionLaw
import Derived.Test.YtegkmolffemkpaaWaV
import Derived.Test.YtegkmolffemkpaaTimesS
import Derived.Test.YtegkmolffemkpaaSta
namespace Go.Proofs.Ytegkmolffemkpaa
open Go.RowKit
def pairR (p x : Int) (b : List Int) : List Int := b.map fun y => x * y % p
def pairL (p : Int) (a b : List Int) : List Int := a.flatMap fun x => pairR p x b
theorem pairR_len (p x : Int) (b : List Int) : (pairR p x b).length = b.length := by simp [pairR]
theorem pairL_len (p : Int) : ∀ (a b : List Int), (pairL p a b).length = a.length * b.length
  | [], b => by simp [pairL]
  | x :: a, b => by
    have := pairL_len p a b
    simp only [pairL, List.flatMap_cons, List.length_append, pairR_len, List.length_cons] at this ⊢
    rw [this, Nat.add_mul, Nat.one_mul, Nat.add_comm]
theorem pairL_step (p : Int) (a b : List Int) (k : Nat) (x : Int) (h : a[k]? = some x) : pairL p (a.take (k + 1)) b = pairL p (a.take k) b ++ pairR p x b := by
  unfold pairL; rw [List.take_add_one, h]; simp
theorem pairR_step (p x : Int) (b : List Int) (j : Nat) (y : Int) (h : b[j]? = some y) : pairR p x (b.take (j + 1)) = pairR p x (b.take j) ++ [x * y % p] := by
  unfold pairR; rw [List.take_add_one, h]; simp
set_option maxHeartbeats 800000 in
theorem specPairs (p : Int) (A : Option Addr) (n c b o : Nat) (xs : List Int) (A' : Option Addr) (n' c' b' o' : Nat) (ys : List Int) (w : World) (h : IA w A n b o xs) (h' : IA w A' n' b' o' ys) (hn : n ≤ 8) (hn' : n' ≤ 8)
    (hp : primeB p = true) (hx : ∀ x ∈ xs, numB p x = true) (hy : ∀ y ∈ ys, numB p y = true) :
    Calls Try.prog 79 #[.int .i64 p, .slice A n c, .slice A' n' c'] w (MadeI (pairL p xs ys).length (pairL p xs ys) w) := by
  have hpb := prime_ge hp
  have HL := Lib.hid h.len
  have HL' := Lib.hid h'.len
  have H := Lib.hid h
  have H' := Lib.hid h'
  have HX := Lib.hid hx
  have HY := Lib.hid hy
  clear h h' hp hx hy
  go_enter Try.func79, Try.ntmps79
  have hp0 : p ≠ 0 := by omega
  go_wp2_with (fail)
  go_loopw [7, 8] (fun v i wr => ∃ (k q : Nat) (A1 : Option Addr) (c1 : Nat), k ≤ n ∧ i = .int .i64 k ∧ v = .slice A1 q c1 ∧ OI wr w.heap.size A1 q c1 (pairL p (xs.take k) ys) ∧ Below w.heap.size w wr) (fun _ i _ => n - (intOf i).toNat)
  case atStart => exact ⟨0, 0, _, _, by omega, rfl, rfl, OI.empty w, (Below.refl _ _).alloc (Nat.le_refl _) _⟩
  case round =>
    obtain ⟨k, q, A1, c1, hk, rfl, rfl, hown, hbel⟩ := hrel
    by_cases hlt : k < n
    · obtain ⟨x, hx, hxc0⟩ := H.out.cell k hlt
      obtain rfl := H.out.adr (by omega)
      have hxb := numB_bd (HX.out x (List.mem_of_getElem? hx))
      have HS := Lib.hid (pairL_step p xs ys k x hx)
      have HO := Lib.hid hown
      have HB := Lib.hid hbel
      clear hown hbel hx
      go_wp2_with (fail)
      go_loopw [7, 9] (fun v i wr => ∃ (j q : Nat) (A1 : Option Addr) (c1 : Nat), j ≤ n' ∧ i = .int .i64 j ∧ v = .slice A1 q c1 ∧ OI wr w.heap.size A1 q c1 (pairL p (xs.take k) ys ++ pairR p x (ys.take j)) ∧ Below w.heap.size w wr) (fun _ i _ => n' - (intOf i).toNat)
      case atStart => exact ⟨0, q, A1, c1, by omega, rfl, rfl, by simpa [pairR] using HO.out, HB.out⟩
      case round =>
        obtain ⟨j, q, A1, c1, hj, rfl, rfl, hown, hbel⟩ := hrel
        obtain ⟨wo, rfl⟩ : ∃ wo : World, wo = wr := ⟨_, rfl⟩
        have hsz := hbel.size
        have hql := hown.len
        by_cases hlj : j < n'
        · obtain ⟨y, hy, hyc0⟩ := H'.out.cell j hlj
          obtain rfl := H'.out.adr (by omega)
          have hxc := (keep_of_below hbel).cell hxc0 (fun h => h)
          have hyc := (keep_of_below hbel).cell hyc0 (fun h => h)
          have hyb := numB_bd (HY.out y (List.mem_of_getElem? hy))
          have hm := mul_bd hxb.1 (by omega) hyb.1 (by omega)
          have hw3 : IntKind.i64.wrap (x * y) = x * y := IntWalk.i64_in _ ⟨by omega, by omega⟩
          obtain ⟨r, hr⟩ : ∃ r, x * y % p = r := ⟨_, rfl⟩
          have htm : (x * y).tmod p = r := by rw [Int.tmod_eq_emod_of_nonneg hm.1]; exact hr
          have HST := Lib.hid (show pairL p (xs.take k) ys ++ pairR p x (ys.take j) ++ [r] = pairL p (xs.take k) ys ++ pairR p x (ys.take (j + 1)) by rw [pairR_step p x ys j y hy, hr, List.append_assoc])
          have hql8 : q ≤ 64 := by
            rw [← hql, List.length_append, pairL_len, pairR_len, List.length_take, List.length_take, H.out.len, H'.out.len]
            have h1 : min k n * n' ≤ 7 * 8 := Nat.mul_le_mul (by omega) (by omega)
            omega
          have hlx : b < wo.heap.size := cell_lt hxc
          have hly : b' < wo.heap.size := cell_lt hyc
          have hlx' : b ≠ wo.heap.size := by omega
          have hly' : b' ≠ wo.heap.size := by omega
          have HCL := Lib.hid (show (wo.alloc (.cells #[.int .i64 r] 3)).drew.cell? ⟨wo.heap.size, 0, none⟩ = some (.int .i64 r) by simp)
          have HTQ := Lib.hid (show OI (wo.alloc (.cells #[.int .i64 r] 3)).drew w.heap.size A1 q c1 _ from OIb (OI.alloc hown _) ((Below.refl _ _).drew))
          have HBQ := Lib.hid (show Below w.heap.size w (wo.alloc (.cells #[.int .i64 r] 3)).drew from (hbel.alloc hsz _).drew)
          clear hy hql hown hbel
          go_wp2_with (fail)
          go_region_law (refine step_app_ownS rfl (.tmp 23) (.tmp 35) rfl rfl w.heap.size A1 q c1 _ rfl HTQ.out r wo.heap.size 1 rfl HCL.out (by omega) (by have := HBQ.out.size; exact this) ?_; intro q7 c8 w7 hO7 hK7 hq7; rw [HST.out] at hO7; have HO7 := Lib.hid hO7; have HB7 := Lib.hid (HBQ.out.trans (hK7.below HBQ.out.size (fun g hg => (HTQ.out.lt g hg).1))); clear hO7 hK7 hq7)
          all_goals
            go_wp2_with (fail)
            go_roundw
            case rel => exact ⟨j + 1, q + 1, _, _, by omega, by go_num, rfl, HO7.out, HB7.out⟩
            case measure => simp [intOf]; omega
        · obtain rfl : j = n' := by omega
          have ey : ys.take j = ys := List.take_of_length_le (by rw [H'.out.len]; omega)
          rw [ey, ← HS.out] at hown
          have HO2 := Lib.hid hown
          have HB2 := Lib.hid hbel
          clear hown hbel hql
          go_wp2_with (fail)
          go_roundw
          case rel => exact ⟨k + 1, q, _, _, by omega, by go_num, rfl, HO2.out, HB2.out⟩
          case measure => simp [intOf]; omega
    · obtain rfl : k = n := by omega
      rw [List.take_of_length_le (by rw [HL.out]; omega)] at hown
      have hql := hown.len
      have HO := Lib.hid hown
      clear hown
      go_wp2_with (fail)
      go_ret
      exact ⟨A1, c1, by rw [hql]; rfl, by rw [hql]; exact HO.out, hbel⟩
set_option maxHeartbeats 800000 in
theorem implPairs (p : Int) (A : Option Addr) (n c b o : Nat) (xs : List Int) (A' : Option Addr) (n' c' b' o' : Nat) (ys : List Int) (w : World) (h : IA w A n b o xs) (h' : IA w A' n' b' o' ys) (hn : n ≤ 8) (hn' : n' ≤ 8)
    (hp : primeB p = true) (hx : ∀ x ∈ xs, numB p x = true) (hy : ∀ y ∈ ys, numB p y = true) :
    Calls Try.prog 77 #[.int .i64 p, .slice A n c, .slice A' n' c'] w (MadeI (pairL p xs ys).length (pairL p xs ys) w) := by
  have hpb := prime_ge hp
  have HL := Lib.hid h.len
  have HL' := Lib.hid h'.len
  have H := Lib.hid h
  have H' := Lib.hid h'
  have HX := Lib.hid hx
  have HY := Lib.hid hy
  clear h h' hp hx hy
  go_enter Try.func77, Try.ntmps77
  have hp0 : p ≠ 0 := by omega
  go_wp2_with (fail)
  go_loopw [7, 14] (fun v i wr => ∃ (k q : Nat) (A1 : Option Addr) (c1 : Nat), k ≤ n ∧ i = .int .i64 k ∧ v = .slice A1 q c1 ∧ OI wr w.heap.size A1 q c1 (pairL p (xs.take k) ys) ∧ Below w.heap.size w wr) (fun _ i _ => n - (intOf i).toNat)
  case atStart => exact ⟨0, 0, none, 0, by omega, rfl, rfl, World.ownsRow_nil _ _ _ _, Below.refl _ _⟩
  case round =>
    obtain ⟨k, q, A1, c1, hk, rfl, rfl, hown, hbel⟩ := hrel
    by_cases hlt : k < n
    · obtain ⟨x, hx, hxc0⟩ := H.out.cell k hlt
      obtain rfl := H.out.adr (by omega)
      have hxc := (keep_of_below hbel).cell hxc0 (fun h => h)
      have HNX := Lib.hid (HX.out x (List.mem_of_getElem? hx))
      have HS := Lib.hid (pairL_step p xs ys k x hx)
      have HO := Lib.hid hown
      have HB := Lib.hid hbel
      clear hown hbel hx
      go_wp2_with (fail)
      go_loopw [7, 20] (fun v i wr => ∃ (j q : Nat) (A1 : Option Addr) (c1 : Nat), j ≤ n' ∧ i = .int .i64 j ∧ v = .slice A1 q c1 ∧ OI wr w.heap.size A1 q c1 (pairL p (xs.take k) ys ++ pairR p x (ys.take j)) ∧ Below w.heap.size w wr) (fun _ i _ => n' - (intOf i).toNat)
      case atStart => exact ⟨0, q, A1, c1, by omega, rfl, rfl, by simpa [pairR] using HO.out, HB.out⟩
      case round =>
        obtain ⟨j, q, A1, c1, hj, rfl, rfl, hown, hbel⟩ := hrel
        have hsz := hbel.size
        have hql := hown.len
        by_cases hlj : j < n'
        · obtain ⟨y, hy, hyc0⟩ := H'.out.cell j hlj
          obtain rfl := H'.out.adr (by omega)
          have hyc := (keep_of_below hbel).cell hyc0 (fun h => h)
          obtain ⟨r, hr⟩ : ∃ r, x * y % p = r := ⟨_, rfl⟩
          have HNT := Lib.hid (show numTimes p x y = r by unfold numTimes; rw [if_pos ⟨HNX.out, HY.out y (List.mem_of_getElem? hy)⟩]; exact hr)
          have HST := Lib.hid (show pairL p (xs.take k) ys ++ pairR p x (ys.take j) ++ [r] = pairL p (xs.take k) ys ++ pairR p x (ys.take (j + 1)) by rw [pairR_step p x ys j y hy, hr, List.append_assoc])
          have hql8 : q ≤ 64 := by
            rw [← hql, List.length_append, pairL_len, pairR_len, List.length_take, List.length_take, H.out.len, H'.out.len]
            have h1 : min k n * n' ≤ 7 * 8 := Nat.mul_le_mul (by omega) (by omega)
            omega
          have HR := Lib.hid hown
          have HBI := Lib.hid hbel
          clear hy hql hown hbel
          go_wp2_with (fail)
          refine (implNumTimes p x y _).mono ?_
          rintro e w' ⟨rfl, rfl⟩
          rw [HNT.out]
          go_wp2_with (at_builtin; refine wpList_app_int rfl (.tmp 24) (.tmp 29) rfl w.heap.size A1 q c1 _ rfl (HR.out.alloc _) r _ _ rfl ?_ (by omega) ?_ ?_)
          · simp
          · simp; omega
          · intro A3 c3 w3 hI3 hK3
            rw [← List.append_assoc, HST.out] at hI3
            have HI3 := Lib.hid hI3
            have HB3 := Lib.hid ((HBI.out.alloc hsz (.cells #[.int .i64 r] 3)).trans (hK3.below (B := w.heap.size) (by simp; omega) (fun g hg => ((HR.out.alloc (.cells #[.int .i64 r] 3)).lt g hg).1)))
            clear hI3 hK3
            go_wp2_with (fail)
            go_roundw
            case rel => exact ⟨j + 1, q + 1, _, _, by omega, by go_num, rfl, HI3.out, HB3.out⟩
            case measure => simp [intOf]; omega
        · obtain rfl : j = n' := by omega
          have ey : ys.take j = ys := List.take_of_length_le (by rw [H'.out.len]; omega)
          rw [ey, ← HS.out] at hown
          have HO2 := Lib.hid hown
          have HB2 := Lib.hid hbel
          clear hown hbel hql
          go_wp2_with (fail)
          go_roundw
          case rel => exact ⟨k + 1, q, _, _, by omega, by go_num, rfl, HO2.out, HB2.out⟩
          case measure => simp [intOf]; omega
    · obtain rfl : k = n := by omega
      rw [List.take_of_length_le (by rw [HL.out]; omega)] at hown
      have hql := hown.len
      have HO := Lib.hid hown
      clear hown
      go_wp2_with (fail)
      go_ret
      exact ⟨A1, c1, by rw [hql]; rfl, by rw [hql]; exact HO.out, hbel⟩
end Go.Proofs.Ytegkmolffemkpaa
