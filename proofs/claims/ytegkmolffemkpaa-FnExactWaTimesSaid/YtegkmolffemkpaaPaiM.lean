/-
  Products of matrices, number by number of one with all of the other: the contracts of pairRows and l6Tensor.
-/
import Derived.Test.YtegkmolffemkpaaPair
namespace Go.Proofs.Ytegkmolffemkpaa
open Go.RowKit
def pairMR (p : Int) (x : List Int) (B : List (List Int)) : List (List Int) := B.map fun y => pairL p x y
def pairM (p : Int) (A B : List (List Int)) : List (List Int) := A.flatMap fun x => pairMR p x B
theorem pairMR_len (p : Int) (x : List Int) (B : List (List Int)) : (pairMR p x B).length = B.length := by simp [pairMR]
theorem pairM_len (p : Int) : ∀ (A B : List (List Int)), (pairM p A B).length = A.length * B.length
  | [], B => by simp [pairM]
  | x :: A, B => by
    have := pairM_len p A B
    simp only [pairM, List.flatMap_cons, List.length_append, pairMR_len, List.length_cons] at this ⊢
    rw [this, Nat.add_mul, Nat.one_mul, Nat.add_comm]
theorem pairM_step (p : Int) (A B : List (List Int)) (k : Nat) (x : List Int) (h : A[k]? = some x) : pairM p (A.take (k + 1)) B = pairM p (A.take k) B ++ pairMR p x B := by
  unfold pairM; rw [List.take_add_one, h]; simp
theorem pairMR_step (p : Int) (x : List Int) (B : List (List Int)) (j : Nat) (y : List Int) (h : B[j]? = some y) : pairMR p x (B.take (j + 1)) = pairMR p x (B.take j) ++ [pairL p x y] := by
  unfold pairMR; rw [List.take_add_one, h]; simp
set_option maxRecDepth 100000 in
set_option maxHeartbeats 1600000 in
theorem implPairRows (p : Int) (A : Option Addr) (n c b o : Nat) (X : List (List Int)) (A' : Option Addr) (n' c' b' o' : Nat) (Y : List (List Int)) (w : World) (h : RA w A n b o X) (h' : RA w A' n' b' o' Y) (hn : n ≤ 8) (hn' : n' ≤ 8)
    (hp : primeB p = true) (hX : ∀ r ∈ X, r.length = n ∧ rowB p r = true) (hY : ∀ r ∈ Y, r.length = n' ∧ rowB p r = true) :
    Calls Try.prog 78 #[.int .i64 p, .slice A n c, .slice A' n' c'] w (MadeM (pairM p X Y).length (pairM p X Y) w) := by
  have HP := Lib.hid hp
  have HL := Lib.hid h.len
  have HL' := Lib.hid h'.len
  have H := Lib.hid h
  have H' := Lib.hid h'
  have HX := Lib.hid hX
  have HY := Lib.hid hY
  clear h h' hp hX hY
  go_enter Try.func78, Try.ntmps78
  go_wp2_with (fail)
  go_loopw [7, 14] (fun v i wr => ∃ (k q : Nat) (A1 : Option Addr) (c1 : Nat) (vs : List Value), k ≤ n ∧ i = .int .i64 k ∧ v = .slice A1 q c1 ∧ OM wr w.heap.size A1 q c1 (pairM p (X.take k) Y) vs ∧ Below w.heap.size w wr) (fun _ i _ => n - (intOf i).toNat)
  case atStart => exact ⟨0, 0, none, 0, [], by omega, rfl, rfl, ⟨World.ownsRow_nil _ _ _ _, rfl, fun r row h => by simp [pairM] at h, fun r s u u' _ h => by simp at h⟩, Below.refl _ _⟩
  case round =>
    obtain ⟨k, q, A1, c1, vs, hk, rfl, rfl, hown, hbel⟩ := hrel
    by_cases hlt : k < n
    · obtain ⟨x, A2, c2, b2, o2, hx, hxc0, hIx⟩ := H.out.row k hlt
      obtain rfl := H.out.adr (by omega)
      obtain ⟨hxl, hxv⟩ := HX.out x (List.mem_of_getElem? hx)
      rw [hxl] at hxc0 hIx
      have hxc := (keep_of_below hbel).cell hxc0 (fun h => h)
      have HS := Lib.hid (pairM_step p X Y k x hx)
      have HXV := Lib.hid (rowB_mem hxv)
      have HXL := Lib.hid hxl
      have HIX := Lib.hid hIx
      have HO := Lib.hid hown
      have HB := Lib.hid hbel
      clear hown hbel hx hxv hIx hxl
      go_wp2_with (fail)
      go_loopw [7, 20] (fun v i wr => ∃ (j q : Nat) (A1 : Option Addr) (c1 : Nat) (vs : List Value), j ≤ n' ∧ i = .int .i64 j ∧ v = .slice A1 q c1 ∧ OM wr w.heap.size A1 q c1 (pairM p (X.take k) Y ++ pairMR p x (Y.take j)) vs ∧ Below w.heap.size w wr) (fun _ i _ => n' - (intOf i).toNat)
      case atStart => exact ⟨0, q, A1, c1, vs, by omega, rfl, rfl, by simpa [pairMR] using HO.out, HB.out⟩
      case round =>
        obtain ⟨j, q, A1, c1, vs, hj, rfl, rfl, hown, hbel⟩ := hrel
        obtain ⟨wo, rfl⟩ : ∃ wo : World, wo = wr := ⟨_, rfl⟩
        have hsz := hbel.size
        have hql := hown.len
        by_cases hlj : j < n'
        · obtain ⟨y, A3, c3, b3, o3, hy, hyc0, hIy⟩ := H'.out.row j hlj
          obtain rfl := H'.out.adr (by omega)
          obtain ⟨hyl, hyv⟩ := HY.out y (List.mem_of_getElem? hy)
          rw [hyl] at hyc0 hIy
          have hyc := (keep_of_below hbel).cell hyc0 (fun h => h)
          have HST := Lib.hid (show pairM p (X.take k) Y ++ pairMR p x (Y.take j) ++ [pairL p x y] = pairM p (X.take k) Y ++ pairMR p x (Y.take (j + 1)) by rw [pairMR_step p x Y j y hy, List.append_assoc])
          have hql8 : q ≤ 64 := by
            rw [← hql, List.length_append, pairM_len, pairMR_len, List.length_take, List.length_take, H.out.len, H'.out.len]
            have h1 : min k n * n' ≤ 7 * 8 := Nat.mul_le_mul (by omega) (by omega)
            omega
          have HIY := Lib.hid (hIy.below hbel)
          have HIX2 := Lib.hid (HIX.out.below hbel)
          have HYV := Lib.hid (rowB_mem hyv)
          have HO := Lib.hid hown
          have HB := Lib.hid hbel
          clear hy hyv hyl hIy hql hown hbel
          go_wp2_with (fail)
          refine (implPairs p A2 n c2 b2 o2 x A3 n' c3 b3 o3 y _ HIX2.out HIY.out hn hn' HP.out HXV.out HYV.out).mono ?_
          rintro e w5 ⟨A5, c5, rfl, hO5, hB5⟩
          have HO5 := Lib.hid hO5
          have HB5 := Lib.hid hB5
          have hs5 := hB5.size
          clear hO5 hB5
          go_wp2_with (at_builtin; refine wpList_app_row rfl (.tmp 24) (.tmp 29) rfl w.heap.size A1 q c1 vs rfl (World.ownsRow.alloc (owns_below HO.out.out HB5.out) _) A5 (pairL p x y).length c5 _ _ rfl ?_ (by omega) ?_ ?_)
          · simp
          · simp; omega
          · intro A6 c6 w6 ho6 hK6
            have hp := HO.out.push (HB5.out.alloc hs5 (.cells #[.slice A5 (pairL p x y).length c5] 23)) (row := pairL p x y) (A1 := A5) (c1 := c5) (HO5.out.alloc _) ho6 hK6 hsz
            rw [HST.out] at hp
            have HP2 := Lib.hid hp
            have HB6 := Lib.hid (HB.out.trans (((HB5.out.alloc hs5 (.cells #[.slice A5 (pairL p x y).length c5] 23)).mono hsz).trans (hK6.below (B := w.heap.size) (by simp; omega) (fun g hg => (HO.out.out.lt g hg).1))))
            clear hp ho6 hK6
            go_wp2_with (fail)
            go_roundw
            case rel => exact ⟨j + 1, q + 1, _, _, _, by omega, by go_num, rfl, HP2.out, HB6.out⟩
            case measure => simp [intOf]; omega
        · obtain rfl : j = n' := by omega
          have ey : Y.take j = Y := List.take_of_length_le (by rw [H'.out.len]; omega)
          rw [ey, ← HS.out] at hown
          have HO2 := Lib.hid hown
          have HB2 := Lib.hid hbel
          clear hown hbel hql
          go_wp2_with (fail)
          go_roundw
          case rel => exact ⟨k + 1, q, _, _, _, by omega, by go_num, rfl, HO2.out, HB2.out⟩
          case measure => simp [intOf]; omega
    · obtain rfl : k = n := by omega
      rw [List.take_of_length_le (by rw [HL.out]; omega)] at hown
      have hql := hown.len
      have HO := Lib.hid hown
      clear hown
      go_wp2_with (fail)
      go_ret
      exact ⟨A1, c1, vs, by rw [hql]; rfl, by rw [hql]; exact HO.out, hbel⟩
theorem cellNew6 (w : World) (v : Value) (t : TypeId) : (w.alloc (.cells #[v] t)).cell? ⟨w.heap.size, 0, none⟩ = some v := by simp
set_option maxRecDepth 100000 in
set_option maxHeartbeats 1600000 in
theorem specTensor (p : Int) (A : Option Addr) (n c b o : Nat) (X : List (List Int)) (A' : Option Addr) (n' c' b' o' : Nat) (Y : List (List Int)) (w : World) (h : RA w A n b o X) (h' : RA w A' n' b' o' Y) (hn : n ≤ 8) (hn' : n' ≤ 8)
    (hp : primeB p = true) (hX : ∀ r ∈ X, r.length = n ∧ rowB p r = true) (hY : ∀ r ∈ Y, r.length = n' ∧ rowB p r = true) :
    Calls Try.prog 80 #[.int .i64 p, .slice A n c, .slice A' n' c'] w (MadeM (pairM p X Y).length (pairM p X Y) w) := by
  have HP := Lib.hid hp
  have HL := Lib.hid h.len
  have HL' := Lib.hid h'.len
  have H := Lib.hid h
  have H' := Lib.hid h'
  have HX := Lib.hid hX
  have HY := Lib.hid hY
  clear h h' hp hX hY
  go_enter Try.func80, Try.ntmps80
  go_wp2_with (fail)
  go_loopw [7, 8] (fun v i wr => ∃ (k q : Nat) (A1 : Option Addr) (c1 : Nat) (vs : List Value), k ≤ n ∧ i = .int .i64 k ∧ v = .slice A1 q c1 ∧ OM wr w.heap.size A1 q c1 (pairM p (X.take k) Y) vs ∧ Below w.heap.size w wr) (fun _ i _ => n - (intOf i).toNat)
  case atStart => exact ⟨0, 0, _, _, [], by omega, rfl, rfl, OM.empty w, (Below.refl _ _).alloc (Nat.le_refl _) _⟩
  case round =>
    obtain ⟨k, q, A1, c1, vs, hk, rfl, rfl, hown, hbel⟩ := hrel
    by_cases hlt : k < n
    · obtain ⟨x, A2, c2, b2, o2, hx, hxc0, hIx⟩ := H.out.row k hlt
      obtain rfl := H.out.adr (by omega)
      obtain ⟨hxl, hxv⟩ := HX.out x (List.mem_of_getElem? hx)
      rw [hxl] at hxc0 hIx
      have hxc := (keep_of_below hbel).cell hxc0 (fun h => h)
      have HS := Lib.hid (pairM_step p X Y k x hx)
      have HXV := Lib.hid (rowB_mem hxv)
      have HXL := Lib.hid hxl
      have HIX := Lib.hid hIx
      have HO := Lib.hid hown
      have HB := Lib.hid hbel
      clear hown hbel hx hxv hIx hxl
      go_wp2_with (fail)
      go_loopw [7, 9] (fun v i wr => ∃ (j q : Nat) (A1 : Option Addr) (c1 : Nat) (vs : List Value), j ≤ n' ∧ i = .int .i64 j ∧ v = .slice A1 q c1 ∧ OM wr w.heap.size A1 q c1 (pairM p (X.take k) Y ++ pairMR p x (Y.take j)) vs ∧ Below w.heap.size w wr) (fun _ i _ => n' - (intOf i).toNat)
      case atStart => exact ⟨0, q, A1, c1, vs, by omega, rfl, rfl, by simpa [pairMR] using HO.out, HB.out⟩
      case round =>
        obtain ⟨j, q, A1, c1, vs, hj, rfl, rfl, hown, hbel⟩ := hrel
        obtain ⟨wo, rfl⟩ : ∃ wo : World, wo = wr := ⟨_, rfl⟩
        have hsz := hbel.size
        have hql := hown.len
        by_cases hlj : j < n'
        · obtain ⟨y, A3, c3, b3, o3, hy, hyc0, hIy⟩ := H'.out.row j hlj
          obtain rfl := H'.out.adr (by omega)
          obtain ⟨hyl, hyv⟩ := HY.out y (List.mem_of_getElem? hy)
          rw [hyl] at hyc0 hIy
          have hyc := (keep_of_below hbel).cell hyc0 (fun h => h)
          have HST := Lib.hid (show pairM p (X.take k) Y ++ pairMR p x (Y.take j) ++ [pairL p x y] = pairM p (X.take k) Y ++ pairMR p x (Y.take (j + 1)) by rw [pairMR_step p x Y j y hy, List.append_assoc])
          have hql8 : q ≤ 64 := by
            rw [← hql, List.length_append, pairM_len, pairMR_len, List.length_take, List.length_take, H.out.len, H'.out.len]
            have h1 : min k n * n' ≤ 7 * 8 := Nat.mul_le_mul (by omega) (by omega)
            omega
          have HIY := Lib.hid (hIy.below hbel)
          have HIX2 := Lib.hid (HIX.out.below hbel)
          have HYV := Lib.hid (rowB_mem hyv)
          have HO := Lib.hid hown
          have HB := Lib.hid hbel
          clear hy hyv hyl hIy hql hown hbel
          have hcx := (keep_of_below (HB.out)).cell hxc0 (fun h => h)
          have hdx : wo.drew.cell? ⟨b, o + k, none⟩ = some (.slice A2 n c2) := hcx
          have hdy : wo.drew.cell? ⟨b', o' + j, none⟩ = some (.slice A3 n' c3) := hyc
          have HIXd := Lib.hid (HIX2.out.below ((Below.refl _ wo).drew))
          have HIYd := Lib.hid (HIY.out.below ((Below.refl _ wo).drew))
          have hszd : w.heap.size ≤ wo.drew.heap.size := hsz
          go_wp2_with (fail)
          go_region_law (first
            | (refine step_app_rowS rfl (.tmp 23) (.tmp 34) rfl rfl w.heap.size A1 q c1 vs rfl (World.ownsRow.alloc (owns_below HO.out.out HB5.out) _) A5 (pairL p x y).length c5 _ _ rfl (cellNew6 _ _ _) (by omega) (by simp; omega) ?_; intro A6 c6 w6 ho6 hK6; have hp := HO.out.push (HB5.out.alloc hs5 (.cells #[.slice A5 (pairL p x y).length c5] 23)) (row := pairL p x y) (A1 := A5) (c1 := c5) (OI.alloc HO5.out _) ho6 hK6 hsz; rw [HST.out] at hp; have HP2 := Lib.hid hp; have HB6 := Lib.hid (HB.out.trans (((HB5.out.alloc hs5 (.cells #[.slice A5 (pairL p x y).length c5] 23)).mono hsz).trans (hK6.below (B := w.heap.size) (by simp; omega) (fun g hg => (HO.out.out.lt g hg).1)))); clear hp ho6 hK6)
            | (go_simp; go_at_call 79; (with_reducible refine (specPairs p A2 n c2 b2 o2 x A3 n' c3 b3 o3 y _ HIXd.out HIYd.out hn hn' HP.out HXV.out HYV.out).mono ?_); rintro e w5 ⟨A5, c5, rfl, hO5, hB5⟩; have HO5 := Lib.hid hO5; have HB5 := Lib.hid (show Below wo.heap.size wo w5 from below_more ((Below.refl _ wo).drew) hB5); have hs5 : wo.heap.size ≤ w5.heap.size := hB5.size; clear hO5 hB5))
          all_goals
            go_wp2_with (fail)
            go_roundw
            case rel => exact ⟨j + 1, q + 1, _, _, _, by omega, by go_num, rfl, HP2.out, HB6.out⟩
            case measure => simp [intOf]; omega
        · obtain rfl : j = n' := by omega
          have ey : Y.take j = Y := List.take_of_length_le (by rw [H'.out.len]; omega)
          rw [ey, ← HS.out] at hown
          have HO2 := Lib.hid hown
          have HB2 := Lib.hid hbel
          clear hown hbel hql
          go_wp2_with (fail)
          go_roundw
          case rel => exact ⟨k + 1, q, _, _, _, by omega, by go_num, rfl, HO2.out, HB2.out⟩
          case measure => simp [intOf]; omega
    · obtain rfl : k = n := by omega
      rw [List.take_of_length_le (by rw [HL.out]; omega)] at hown
      have hql := hown.len
      have HO := Lib.hid hown
      clear hown
      go_wp2_with (fail)
      go_ret
      exact ⟨A1, c1, vs, by rw [hql]; rfl, by rw [hql]; exact HO.out, hbel⟩
end Go.Proofs.Ytegkmolffemkpaa
