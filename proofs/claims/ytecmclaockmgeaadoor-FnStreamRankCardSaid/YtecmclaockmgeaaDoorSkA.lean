/-
  The contract of the program's MatTurn.
  Products of matrices: what they are, and the contracts of sumOfProducts and of l1Times.
  The contract of the program's MatTimes.
  The contract of the model's MatTimes.
  The contracts of the functions that look into rows and change one row: firstRowWith, negative, multiplyRow, takeRow.
  The contract of reduceRows.
  The contract of copyRows.
  The contracts of the program's MatForm and MatRank.
  The contract of the program's MatRank.
  The contracts of the model's l1Copy and l1Mod.
  The contract of the model's l1Form.
  The contracts of the model's MatForm and MatRank.
-/
import Derived.Test.YtecmclaockmgeaaDoorTurnS
import Derived.StillTailTactics
import Derived.Test.YtecmclaockmgeaaDoorRowV
import Derived.Test.YtecmclaockmgeaaDoorTail
import Derived.Test.YtecmclaockmgeaaDoorElim
import Derived.BigRegion
import Derived.Test.YtecmclaockmgeaaDoorRules
import Derived.Deep.RegionHeld3
import Derived.Test.YtecmclaockmgeaaDoorMod
namespace Go.Proofs.YtecmclaockmgeaaDoor
open Go.RowKit
theorem Half.congr {w : World} {B n k : Nat} {M M' : List (List Int)} {vs : List Value} (h : Half w B n k M vs) (he : ∀ r, r < k → M'[r]? = M[r]?) : Half w B n k M' vs :=
  ⟨h.out, h.vlen, fun r row hr hrow => h.row r row hr (by rw [← he r hr]; exact hrow), h.apart⟩
theorem Half.setRow {w w' : World} {B n k : Nat} {M : List (List Int)} {vs : List Value} (h : Half w B n k M vs) {r : Nat} {row new : List Int} {A' : Option Addr} {c' : Nat} (hrk : r < k) (hr : M[r]? = some row) (hv : vs[r]? = some (Value.slice A' row.length c'))
    (hl : new.length = row.length) (hI : OI w' (B + 1) A' row.length c' new) (k' : Keep (fun g => (Value.slice A' row.length c').ownBlock = some g) w w') : Half w' B n k (M.set r new) vs := by
  have hlt : r < M.length := (List.getElem?_eq_some_iff.1 hr).1
  obtain ⟨A1, c1, hv1, hI1⟩ := h.row r row hrk hr
  rw [hv] at hv1
  simp only [Option.some.injEq, Value.slice.injEq, true_and] at hv1
  obtain ⟨rfl, rfl⟩ := hv1
  refine ⟨owns_keep h.out k' (fun g hg hs => ?_), h.vlen, fun s row' hsk hs => ?_, h.apart⟩
  · have := (hI1.lt g hs).1
    simp [Value.ownBlock] at hg; omega
  · by_cases e : s = r
    · subst e
      rw [List.getElem?_set_self hlt] at hs
      obtain rfl := Option.some.inj hs
      exact ⟨A', c', by rw [hl]; exact hv, by rw [hl]; exact hI⟩
    · rw [List.getElem?_set_ne (fun e' => e e'.symm)] at hs
      obtain ⟨A2, c2, h1, h2⟩ := h.row s row' hsk hs
      refine ⟨A2, c2, h1, owns_keep h2 k' (fun g hg hs' => ?_)⟩
      rcases Nat.lt_or_gt_of_ne e with hlt' | hlt'
      · rcases h.apart s r _ _ hlt' h1 hv with h3 | h3
        · rw [h3] at hg; simp at hg
        · exact h3 (hg.trans hs'.symm)
      · rcases h.apart r s _ _ hlt' hv h1 with h3 | h3
        · rw [h3] at hs'; simp at hs'
        · exact h3 (hs'.trans hg.symm)
theorem Half.drew {w : World} {B n k : Nat} {M : List (List Int)} {vs : List Value} (h : Half w B n k M vs) : Half w.drew B n k M vs := ⟨h.out, h.vlen, h.row, h.apart⟩
/-- a column as far as it is written -/
def partR (xs : List Int) (n i : Nat) : List Int := xs.take i ++ List.replicate (n - i) 0
theorem partR_len (xs : List Int) (n i : Nat) (h : xs.length = n) (hi : i ≤ n) : (partR xs n i).length = n := by simp [partR]; omega
theorem partR_set {xs : List Int} {k n : Nat} {x : Int} (hk : k < n) (hl : xs.length = n) (hx : xs[k]? = some x) : (partR xs n k).set k x = partR xs n (k + 1) := by
  unfold partR
  have e : n - k = (n - (k + 1)) + 1 := by omega
  rw [List.take_add_one, hx, e, List.replicate_succ, List.set_append_right _ _ (by simp; omega)]
  simp
  rw [show k - min k xs.length = 0 by omega]
  rfl
theorem partR_done {xs : List Int} {n : Nat} (hl : xs.length = n) : partR xs n n = xs := by unfold partR; rw [List.take_of_length_le (by omega)]; simp
theorem turnR_tot (p : Int) (M : List (List Int)) : tot (turnR p M) ≤ 64 := by
  unfold turnR
  split
  · rename_i h
    obtain ⟨h1, h2, h3, h4, _⟩ := matB_true h
    have := tot_rows (turnM M) 8 (fun row hr => by
      unfold turnM at hr
      obtain ⟨j, _, rfl⟩ := List.mem_map.1 hr
      rw [colM_len]; omega)
    rw [turnM_len] at this
    omega
  · simp [tot]
end Go.Proofs.YtecmclaockmgeaaDoor
namespace Go.Proofs.YtecmclaockmgeaaDoor
open Go.RowKit
def dot : List Int → List Int → Int
  | x :: xs, y :: ys => x * y + dot xs ys
  | _, _ => 0
theorem dot_take : ∀ (xs ys : List Int) (k : Nat) (x y : Int), xs[k]? = some x → ys[k]? = some y → dot (xs.take (k + 1)) (ys.take (k + 1)) = dot (xs.take k) (ys.take k) + x * y
  | [], _, k, x, y, h, _ => by simp at h
  | _ :: _, [], k, x, y, _, h => by simp at h
  | a :: xs, b :: ys, 0, x, y, hx, hy => by simp at hx hy; subst hx; subst hy; simp [dot]
  | a :: xs, b :: ys, k + 1, x, y, hx, hy => by
    have := dot_take xs ys k x y (by simpa using hx) (by simpa using hy)
    simp only [List.take_succ_cons, dot]; omega
theorem dot_bd {p : Int} (hp : p ≤ 13) : ∀ (xs ys : List Int), (∀ x ∈ xs, 0 ≤ x ∧ x < p) → (∀ y ∈ ys, 0 ≤ y ∧ y < p) → 0 ≤ dot xs ys ∧ dot xs ys ≤ 169 * (xs.length : Int)
  | [], ys, _, _ => by simp [dot]
  | x :: xs, [], _, _ => by simp [dot]; omega
  | x :: xs, y :: ys, hx, hy => by
    have h1 := dot_bd hp xs ys (fun z hz => hx z (by simp [hz])) (fun z hz => hy z (by simp [hz]))
    have h2 := hx x (by simp)
    have h3 := hy y (by simp)
    have h4 : 0 ≤ x * y := Int.mul_nonneg h2.1 h3.1
    have h5 : x * y ≤ 13 * 13 := Int.mul_le_mul (by omega) (by omega) h3.1 (by omega)
    simp only [dot, List.length_cons]
    omega
theorem dot_same : ∀ (xs ys : List Int) (n : Nat), xs.length = n → ys.length = n → dot (xs.take n) (ys.take n) = dot xs ys := by
  intro xs ys n h1 h2
  rw [List.take_of_length_le (by omega), List.take_of_length_le (by omega)]
theorem dot_take_bd {p : Int} (hp : p ≤ 13) (xs ys : List Int) (k : Nat) (hk : k ≤ 8) (hx : ∀ x ∈ xs, numB p x = true) (hy : ∀ y ∈ ys, numB p y = true) : 0 ≤ dot (xs.take k) (ys.take k) ∧ dot (xs.take k) (ys.take k) ≤ 1352 := by
  have h := dot_bd hp (xs.take k) (ys.take k) (fun x h => let b := numB_bd (hx x (List.mem_of_mem_take h)); ⟨b.1, b.2.1⟩) (fun x h => let b := numB_bd (hy x (List.mem_of_mem_take h)); ⟨b.1, b.2.1⟩)
  have hl : (xs.take k).length ≤ 8 := by simp; omega
  omega
end Go.Proofs.YtecmclaockmgeaaDoor
namespace Go.Proofs.YtecmclaockmgeaaDoor
open Go.RowKit
def timesRow (p : Int) (B : List (List Int)) (row : List Int) : List Int := (List.range (B.headD []).length).map fun j => dot row (colM B j) % p
def timesM (p : Int) (A B : List (List Int)) : List (List Int) := A.map (timesRow p B)
def timesR (p : Int) (A B : List (List Int)) : List (List Int) := if matB p A = true ∧ matB p B = true ∧ (A.headD []).length = B.length then timesM p A B else []
theorem timesRow_len (p : Int) (B : List (List Int)) (row : List Int) : (timesRow p B row).length = (B.headD []).length := by simp [timesRow]
theorem timesRow_get (p : Int) (B : List (List Int)) (row : List Int) (j : Nat) (h : j < (B.headD []).length) : (timesRow p B row)[j]? = some (dot row (colM B j) % p) := by
  unfold timesRow; rw [List.getElem?_map, List.getElem?_range h]; rfl
theorem timesM_get {p : Int} {A B : List (List Int)} {i : Nat} {row : List Int} (h : A[i]? = some row) : (timesM p A B)[i]? = some (timesRow p B row) := by
  unfold timesM; rw [List.getElem?_map, h]; rfl
theorem timesM_len (p : Int) (A B : List (List Int)) : (timesM p A B).length = A.length := by simp [timesM]
theorem colM_valid {p : Int} {M : List (List Int)} (h : matB p M = true) (j : Nat) (hj : j < (M.headD []).length) : ∀ x ∈ colM M j, numB p x = true := by
  intro x hx
  unfold colM at hx
  obtain ⟨row, hr, rfl⟩ := List.mem_map.1 hx
  obtain ⟨_, _, _, _, h5⟩ := matB_true h
  obtain ⟨h6, h7⟩ := h5 row hr
  rw [List.getD_eq_getElem?_getD, List.getElem?_eq_getElem (show j < row.length by omega)]
  exact h7 _ (List.getElem_mem _)
theorem prime_of_mat {p : Int} {M : List (List Int)} (h : matB p M = true) : primeB p = true := by
  obtain ⟨h1, h2, h3, h4, h5⟩ := matB_true h
  cases M with
  | nil => simp at h1
  | cons r M =>
    obtain ⟨h6, h7⟩ := h5 r (by simp)
    simp only [List.headD_cons] at h3
    cases r with
    | nil => simp at h3
    | cons x r => exact (numB_true (h7 x (by simp))).1
theorem timesR_no {p : Int} {A B : List (List Int)} (h : ¬ (matB p A = true ∧ matB p B = true ∧ (A.headD []).length = B.length)) : timesR p A B = [] := by unfold timesR; rw [if_neg h]
theorem timesR_yes {p : Int} {A B : List (List Int)} (h : matB p A = true ∧ matB p B = true ∧ (A.headD []).length = B.length) : timesR p A B = timesM p A B := by unfold timesR; rw [if_pos h]
theorem OM.none (w : World) (B : Nat) : OM w B none 0 0 [] [] := ⟨World.ownsRow_nil _ _ _ _, rfl, fun r row h => by simp at h, fun r s u u' _ h => by simp at h⟩
theorem quiet_int {P : Program} {f : FuncId} {args : Array Value} {w : World} {n : Nat} {t : Int} (h : Calls P f args (w.drewN n) fun e w' => e = .returned (.int .i64 t) ∧ ∃ m, w' = (w.drewN n).drewN m) :
    Calls P f args (w.drewN n) fun e w'' => e = .returned (.int .i64 t) ∧ ∃ m, w'' = w.drewN m := h.mono fun _ _ ⟨he, m, hw⟩ => ⟨he, n + m, by rw [hw, World.drewN_drewN]⟩
theorem Half.drewN {w : World} {B n k : Nat} {M : List (List Int)} {vs : List Value} (h : Half w B n k M vs) (m : Nat) : Half (w.drewN m) B n k M vs := ⟨h.out, h.vlen, h.row, h.apart⟩
theorem below_drewN' {B : Nat} {w w1 : World} (h : Below B w w1) (m : Nat) : Below B w (w1.drewN m) := ⟨h.os, h.tape, h.output, h.size, h.block⟩
end Go.Proofs.YtecmclaockmgeaaDoor
namespace Go.Proofs.YtecmclaockmgeaaDoor
open Go.RowKit
theorem quietRW {w w' : World} (h : ∃ m, w' = w.drewN m) : Keep (fun _ => False) w w' := by obtain ⟨m, rfl⟩ := h; exact drewN_keep w m
theorem OI.drawn {w w' : World} {B n c : Nat} {A : Option Addr} {xs : List Int} (h : OI w B A n c xs) (hw : ∃ m, w' = w.drewN m) : OI w' B A n c xs := owns_keep h (quietRW hw) (fun _ _ h => h)
theorem OM.drawn {w w' : World} {B n c : Nat} {A : Option Addr} {M : List (List Int)} {vs : List Value} (h : OM w B A n c M vs) (hw : ∃ m, w' = w.drewN m) : OM w' B A n c M vs := h.keep (quietRW hw) (fun _ _ _ h => h)
end Go.Proofs.YtecmclaockmgeaaDoor
namespace Go.Proofs.YtecmclaockmgeaaDoor
open Go.RowKit
theorem at2_of {M : List (List Int)} {i j : Nat} {row : List Int} {x : Int} (hr : M[i]? = some row) (hx : row[j]? = some x) : at2 M i j = x := by
  simp [at2, List.getD_eq_getElem?_getD, hr, hx]
/-- what firstRowWith answers: the first row from a given one on that is not 0 in the column; -1 if there is none -/
def FirstI (M : List (List Int)) (col : Nat) (from_ : Nat) (x : Int) : Prop :=
  (x = -1 ∧ firstW M col (M.length - from_) from_ = none) ∨ ∃ r : Nat, x = r ∧ r < M.length ∧ firstW M col (M.length - from_) from_ = some r
def FirstPost (Q : Int → Prop) (w : World) (e : Ending) (w' : World) : Prop := ∃ x : Int, e = .returned (.int .i64 x) ∧ Q x ∧ w = w'
theorem firstRowWith_any (A : Option Addr) (n c b o : Nat) (M : List (List Int)) (col fr : Nat) (w : World) (h : RA w A n b o M) (hl : ∀ row ∈ M, col < row.length) (hf : fr ≤ n) (hcol : col ≤ 1000) :
    Calls Tryd.prog 46 #[.slice A n c, .int .i64 (col : Int), .int .i64 (fr : Int)] w (FirstPost (FirstI M col fr) w) := by
  have hbig := h.big
  have H := Lib.hid h
  have HL := Lib.hid hl
  clear h hl
  go_enter Tryd.func46, Tryd.ntmps46
  go_wp2_with (fail)
  go_loop [7] (fun i => ∃ k : Nat, fr ≤ k ∧ k ≤ n ∧ i = .int .i64 k ∧ Hid (∀ j, fr ≤ j → j < k → at2 M j col = 0)) (fun i => n - (intOf i).toNat)
  case atStart => exact ⟨fr, Nat.le_refl _, hf, rfl, fun j h1 h2 => absurd h2 (by omega)⟩
  case round =>
    obtain ⟨k, hk0, hk, rfl, hz⟩ := hrel
    by_cases hlt : k < n
    · obtain rfl := H.out.adr (by omega)
      obtain ⟨row, A1, c1, b1, o1, hr, hc, hI⟩ := H.out.row k hlt
      have hcl := HL.out row (List.mem_of_getElem? hr)
      have hbig1 := hI.big
      obtain ⟨x, hx, hxc⟩ := hI.cell col hcl
      obtain rfl := hI.adr (by omega)
      have HA := Lib.hid (at2_of hr hx)
      clear hr hx hI
      by_cases hx0 : x = 0
      · have hb : (x != 0) = false := by simp [hx0]
        have HX := Lib.hid hx0
        clear hx0
        go_wp2_with (fail)
        go_round
        case rel => exact ⟨k + 1, by omega, by omega, by go_num, fun j h1 h2 => if e : j = k then by rw [e, HA.out, HX.out] else hz.out j h1 (by omega)⟩
        case measure => simp [intOf]; omega
      · have hb : (x != 0) = true := by simp [hx0]
        have HX := Lib.hid hx0
        clear hx0
        go_wp2_with (fail)
        go_ret
        exact ⟨_, rfl, .inr ⟨k, rfl, by rw [H.out.len]; omega, firstW_is hk0 (by rw [H.out.len]; omega) (by rw [HA.out]; exact HX.out) hz.out⟩, rfl⟩
    · go_wp2_with (fail)
      go_ret
      exact ⟨_, rfl, .inl ⟨rfl, firstW_not (fun j h1 h2 => hz.out j h1 (by rw [H.out.len] at h2; omega))⟩, rfl⟩
theorem negative_any (p a : Int) (w : World) (hp : 2 ≤ p) (hp' : p ≤ 13) (ha : 0 ≤ a) (ha' : a < p) :
    Calls Tryd.prog 38 #[.int .i64 p, .int .i64 a] w fun e w' => e = .returned (.int .i64 ((p - a) % p)) ∧ w = w' := by
  go_enter Tryd.func38, Tryd.ntmps38
  go_wp2_with (fail)
  go_ret
  exact ⟨rfl, rfl⟩
/-- a row that is changed from its beginning on, as far as it is -/
theorem mix_set {xs ys : List Int} {k : Nat} {y : Int} (hl : ys.length = xs.length) (hy : ys[k]? = some y) : (ys.take k ++ xs.drop k).set k y = ys.take (k + 1) ++ xs.drop (k + 1) := set_step ys xs k y hl hy
def RowPost (B n c : Nat) (A : Option Addr) (ys : List Int) (w : World) (e : Ending) (w' : World) : Prop :=
  e = .returned (.tuple #[]) ∧ OI w' B A n c ys ∧ Keep (fun g => (Value.slice A n c).ownBlock = some g) w w'
theorem scaleRow_get {p t : Int} {row : List Int} {k : Nat} {x : Int} (h : row[k]? = some x) : (scaleRow p t row)[k]? = some (x * t % p) := by simp [scaleRow, h]
theorem multiplyRow_any (p t : Int) (B : Nat) (A : Option Addr) (n c : Nat) (xs : List Int) (w : World) (h : OI w B A n c xs) (ht : numB p t = true) (hx : ∀ x ∈ xs, numB p x = true) (hn : n ≤ 1000) :
    Calls Tryd.prog 47 #[.int .i64 p, .slice A n c, .int .i64 t] w (RowPost B n c A (scaleRow p t xs) w) := by
  have htb := numB_bd ht
  have hlen := h.len
  have hadr := h.adr
  have H := Lib.hid h
  have HX := Lib.hid hx
  have HL := Lib.hid hlen
  have HA := Lib.hid hadr
  clear h hlen hadr hx ht
  go_enter Tryd.func47, Tryd.ntmps47
  go_wp2_with (fail)
  go_loopw [9] (fun i wr => ∃ j : Nat, j ≤ n ∧ i = .int .i64 j ∧ OI wr B A n c ((scaleRow p t xs).take j ++ xs.drop j) ∧ Keep (fun g => (Value.slice A n c).ownBlock = some g) w wr) (fun i _ => n - (intOf i).toNat)
  case atStart => exact ⟨0, by omega, rfl, by simpa using H.out, Keep.refl _ _⟩
  case round =>
    obtain ⟨j, hj, rfl, hown, hkeep⟩ := hrel
    by_cases hlt : j < n
    · obtain ⟨g, hg, hBg⟩ : ∃ g, A = some ⟨g, 0, none⟩ ∧ B ≤ g := by
        rcases HA.out with ⟨_, h0, _⟩ | ⟨g, h1, h2, _⟩
        · omega
        · exact ⟨g, h1, h2⟩
      subst hg
      have hl := HL.out
      have hxj : xs[j]? = some (xs[j]'(by omega)) := List.getElem?_eq_getElem (by omega)
      obtain ⟨x, hxx⟩ : ∃ x, xs[j]'(by omega) = x := ⟨_, rfl⟩
      rw [hxx] at hxj
      have hxb := numB_bd (HX.out x (List.mem_of_getElem? hxj))
      have hm := mul_bd hxb.1 (by omega) htb.1 (by omega)
      have hcell := World.ownsRow.cellAt hown j (by omega)
      have hmx : (ints ((scaleRow p t xs).take j ++ xs.drop j))[j]? = some (.int .i64 x) := by
        unfold ints; rw [List.getElem?_map, mix_get _ _ _ (scaleRow_len p t xs) (by rw [scaleRow_len]; omega), hxj]; rfl
      rw [hmx] at hcell
      have hfr := World.ownsRow.frozenAt hown j
      have hst := World.ownsRow.stored hown j (.int .i64 (x * t % p))
      rw [ints_set, mix_set (scaleRow_len p t xs) (scaleRow_get hxj)] at hst
      have HO := Lib.hid hst.1
      have HK := Lib.hid (hkeep.trans ((setCell_keep wr ⟨g, j, none⟩ (.int .i64 (x * t % p))).mono (fun q _ hq => by rw [hq]; rfl)))
      clear hmx hst hown hkeep hl hxj hxx
      go_wp2_with (fail)
      go_roundw
      case rel => exact ⟨j + 1, by omega, by go_num, HO.out, HK.out⟩
      case measure => simp [intOf]; omega
    · obtain rfl : j = n := by omega
      have e : (scaleRow p t xs).take j ++ xs.drop j = scaleRow p t xs := by
        rw [List.take_of_length_le (by rw [scaleRow_len, HL.out]; omega), List.drop_of_length_le (by rw [HL.out]; omega)]; simp
      rw [e] at hown
      have HO := Lib.hid hown
      clear e hown
      go_wp2_with (fail)
      go_end0
      exact ⟨rfl, HO.out, hkeep⟩
theorem IA.keepb {w w' : World} {A : Option Addr} {n b o : Nat} {xs : List Int} {S : Nat → Prop} (h : IA w A n b o xs) (k : Keep S w w') (hs : 0 < n → ¬ S b) : IA w' A n b o xs :=
  ⟨h.len, h.adr, h.big, fun i hi => let ⟨x, h1, h2⟩ := h.cell i hi; ⟨x, h1, k.cell h2 (hs (by omega))⟩⟩
theorem subRow_get {p t : Int} {row taken : List Int} {k : Nat} {x y : Int} (hx : row[k]? = some x) (hy : taken[k]? = some y) : (subRow p t row taken)[k]? = some ((x - t * y) % p) := by simp [subRow, List.getElem?_zipWith, hx, hy]
theorem sub_mod (p x t y : Int) : (x + (p - t) % p * y) % p = (x - t * y) % p := by
  rw [Int.add_emod, Int.mul_emod, Int.emod_emod, ← Int.mul_emod, ← Int.add_emod]
  have e : x + (p - t) * y = (x - t * y) + p * y := by rw [Int.sub_mul]; omega
  rw [e, Int.add_mul_emod_self_left]
theorem negative_is {p a u : Int} (h : (p - a) % p = u) (w : World) (hp : 2 ≤ p) (hp' : p ≤ 13) (ha : 0 ≤ a) (ha' : a < p) :
    Calls Tryd.prog 38 #[.int .i64 p, .int .i64 a] w fun e w' => e = .returned (.int .i64 u) ∧ w = w' := by subst h; exact negative_any p a w hp hp' ha ha'
set_option maxHeartbeats 400000 in
theorem takeRow_any (p t : Int) (B : Nat) (A : Option Addr) (n c : Nat) (xs : List Int) (A' : Option Addr) (c' b' o' : Nat) (ys : List Int) (w : World) (h : OI w B A n c xs) (h' : IA w A' n b' o' ys) (hne : ∀ g, (Value.slice A n c).ownBlock = some g → b' ≠ g)
    (ht : numB p t = true) (hx : ∀ x ∈ xs, numB p x = true) (hy : ∀ y ∈ ys, numB p y = true) (hn : n ≤ 1000) :
    Calls Tryd.prog 49 #[.int .i64 p, .slice A n c, .slice A' n c', .int .i64 t] w (RowPost B n c A (subRow p t xs ys) w) := by
  have htb := numB_bd ht
  have hlen := h.len
  have hadr := h.adr
  have hsl : (subRow p t xs ys).length = xs.length := subRow_len _ _ _ _ (by rw [hlen, h'.len])
  have hneg0 : 0 ≤ (p - t) % p := Int.emod_nonneg _ (by omega)
  have hneg1 : (p - t) % p < p := Int.emod_lt_of_pos _ (by omega)
  obtain ⟨u, hu⟩ : ∃ u, (p - t) % p = u := ⟨_, rfl⟩
  rw [hu] at hneg0 hneg1
  have HU := Lib.hid hu
  clear hu
  have H := Lib.hid h
  have H' := Lib.hid h'
  have HX := Lib.hid hx
  have HY := Lib.hid hy
  have HL := Lib.hid hlen
  have HA := Lib.hid hadr
  have HNE := Lib.hid hne
  have HSL := Lib.hid hsl
  clear h hlen hadr hx ht h' hy hne hsl
  go_enter Tryd.func49, Tryd.ntmps49
  go_wp2_with (fail)
  go_loopw [11] (fun i wr => ∃ j : Nat, j ≤ n ∧ i = .int .i64 j ∧ OI wr B A n c ((subRow p t xs ys).take j ++ xs.drop j) ∧ Keep (fun g => (Value.slice A n c).ownBlock = some g) w wr) (fun i _ => n - (intOf i).toNat)
  case atStart => exact ⟨0, by omega, rfl, by simpa using H.out, Keep.refl _ _⟩
  case round =>
    obtain ⟨j, hj, rfl, hown, hkeep⟩ := hrel
    by_cases hlt : j < n
    · obtain ⟨g, hg, hBg⟩ : ∃ g, A = some ⟨g, 0, none⟩ ∧ B ≤ g := by
        rcases HA.out with ⟨_, h0, _⟩ | ⟨g, h1, h2, _⟩
        · omega
        · exact ⟨g, h1, h2⟩
      subst hg
      have hl := HL.out
      have hxj : xs[j]? = some (xs[j]'(by omega)) := List.getElem?_eq_getElem (by omega)
      obtain ⟨x, hxx⟩ : ∃ x, xs[j]'(by omega) = x := ⟨_, rfl⟩
      rw [hxx] at hxj
      have hbg : b' ≠ g := HNE.out g rfl
      obtain ⟨y, hy, hyc⟩ := (H'.out.keepb hkeep (fun _ hs => by simp [Value.ownBlock] at hs; omega)).cell j hlt
      obtain rfl := H'.out.adr (by omega)
      have hxb := numB_bd (HX.out x (List.mem_of_getElem? hxj))
      have hyb := numB_bd (HY.out y (List.mem_of_getElem? hy))
      have hm := mul_bd hneg0 (by omega) hyb.1 (by omega)
      have hcell := World.ownsRow.cellAt hown j (by omega)
      have hmx : (ints ((subRow p t xs ys).take j ++ xs.drop j))[j]? = some (.int .i64 x) := by
        unfold ints; rw [List.getElem?_map, mix_get _ _ _ HSL.out (by rw [HSL.out]; omega), hxj]; rfl
      rw [hmx] at hcell
      have hfr := World.ownsRow.frozenAt hown j
      have hst := World.ownsRow.stored hown j (.int .i64 ((x + u * y) % p))
      rw [show (x + u * y) % p = (x - t * y) % p by rw [← HU.out]; exact sub_mod p x t y, ints_set, mix_set HSL.out (subRow_get hxj hy), show (x - t * y) % p = (x + u * y) % p by rw [← HU.out]; exact (sub_mod p x t y).symm] at hst
      have HO := Lib.hid hst.1
      have HK := Lib.hid (hkeep.trans ((setCell_keep wr ⟨g, j, none⟩ (.int .i64 ((x + u * y) % p))).mono (fun q _ hq => by rw [hq]; rfl)))
      clear hmx hst hown hkeep hl hxj hxx hy
      go_wp2_with (fail)
      refine wp_quiet_tail 18 (by kernel_rfl) (by kernel_rfl) ?_
      simp only [List.take_succ_cons, List.take_zero, List.drop_succ_cons, List.drop_zero]
      repeat (go_big_quiet_step ((go_at_call 38; exact quiet_same (negative_is HU.out _ htb.2.2.1 htb.2.2.2 htb.1 htb.2.1))))
      refine wpQuiet_nil ?_
      intro _ hw'
      obtain ⟨nq, hw''⟩ := hw'
      subst hw''
      go_wp2_with (fail)
      go_roundw
      case rel => exact ⟨j + 1, by omega, by go_num, owns_keep HO.out (drewN_keep (S := fun _ => False) _ _) (fun _ _ h => h), HK.out.drewN _⟩
      case measure => simp [intOf]; omega
    · obtain rfl : j = n := by omega
      have e : (subRow p t xs ys).take j ++ xs.drop j = subRow p t xs ys := by
        rw [List.take_of_length_le (by rw [HSL.out, HL.out]; omega), List.drop_of_length_le (by rw [HL.out]; omega)]; simp
      rw [e] at hown
      have HO := Lib.hid hown
      clear e hown
      go_wp2_with (fail)
      go_end0
      exact ⟨rfl, HO.out, hkeep⟩
end Go.Proofs.YtecmclaockmgeaaDoor
namespace Go.Proofs.YtecmclaockmgeaaDoor
open Go.RowKit
/-- the rows of a slice of slices, all in blocks of their own from B on, below hi, the slice of slices itself in block g -/
structure OMF (w : World) (B hi g n c : Nat) (M : List (List Int)) (vs : List Value) : Prop where
  om : OM w B (some ⟨g, 0, none⟩) n c M vs
  gl : g < hi
  foot : Foot vs B hi
theorem OMF.cell {w : World} {B hi g n c : Nat} {M : List (List Int)} {vs : List Value} (h : OMF w B hi g n c M vs) {r : Nat} (hr : r < n) :
    ∃ (row : List Int) (A' : Option Addr) (c' : Nat), M[r]? = some row ∧ vs[r]? = some (Value.slice A' row.length c') ∧ w.cell? ⟨g, r, none⟩ = some (.slice A' row.length c') ∧ OI w B A' row.length c' row ∧ w.frozen? ⟨g, r, none⟩ = false := by
  have hrow : M[r]? = some (M[r]'(by rw [h.om.len]; exact hr)) := List.getElem?_eq_getElem (by rw [h.om.len]; exact hr)
  obtain ⟨A', c', h1, h2⟩ := h.om.row r _ hrow
  have hc := World.ownsRow.cellAt h.om.out r (by omega)
  rw [h1] at hc
  exact ⟨_, A', c', hrow, h1, hc, h2, World.ownsRow.frozenAt h.om.out r⟩
def swapV (vs : List Value) (i j : Nat) : List Value := (vs.set i (vs.getD j undef)).set j (vs.getD i undef)
theorem swap_get {α : Type} (d : α) (l : List α) (i j k : Nat) (hi : i < l.length) (hj : j < l.length) : ((l.set i (l.getD j d)).set j (l.getD i d))[k]? = if k = j then l[i]? else if k = i then l[j]? else l[k]? := by
  by_cases h1 : k = j
  · subst h1
    rw [if_pos rfl, List.getElem?_set_self (by simpa using hj), List.getD_eq_getElem?_getD, List.getElem?_eq_getElem hi]; rfl
  · rw [if_neg h1, List.getElem?_set_ne (fun e => h1 e.symm)]
    by_cases h2 : k = i
    · subst h2
      rw [if_pos rfl, List.getElem?_set_self hi, List.getD_eq_getElem?_getD, List.getElem?_eq_getElem hj]; rfl
    · rw [if_neg h2, List.getElem?_set_ne (fun e => h2 e.symm)]
theorem OMF.swap {w w' : World} {B hi g n c : Nat} {M : List (List Int)} {vs : List Value} (h : OMF w B hi g n c M vs) {i j : Nat} (hin : i < n) (hjn : j < n)
    (ho : w'.ownsRow B 23 1 (.slice (some ⟨g, 0, none⟩) n c) n (swapV vs i j)) (hk : Keep (· = g) w w') : OMF w' B hi g n c (swapM M i j) (swapV vs i j) := by
  have hvl := h.om.vlen
  have hM := h.om.len
  have hsv := fun k => swap_get undef vs i j k (by omega) (by omega)
  have hsm := fun k => swap_get [] M i j k (by omega) (by omega)
  have keepI : ∀ (A2 : Option Addr) (m c2 : Nat) (xs : List Int), OI w B A2 m c2 xs → OI w' B A2 m c2 xs := fun A2 m c2 xs hx => owns_keep hx hk (fun q hq hs => block_elem hx h.om.out (by decide) q hq (by simp [Value.ownBlock, hs]))
  have hrow : ∀ (r : Nat) (row : List Int), (swapM M i j)[r]? = some row → ∃ q, (swapM M i j)[r]? = M[q]? ∧ (swapV vs i j)[r]? = vs[q]? ∧ q = (if r = j then i else if r = i then j else r) := by
    intro r row _
    refine ⟨if r = j then i else if r = i then j else r, ?_, ?_, rfl⟩
    · unfold swapM; rw [hsm]; split
      · rfl
      · split <;> rfl
    · unfold swapV; rw [hsv]; split
      · rfl
      · split <;> rfl
  refine ⟨⟨ho, by rw [swapM_len]; exact hM, fun r row hr => ?_, fun r s u u' hrs hu hu' => ?_⟩, h.gl, fun r u q hu hq => ?_⟩
  · obtain ⟨q, e1, e2, _⟩ := hrow r row hr
    rw [e1] at hr
    obtain ⟨A', c', h1, h2⟩ := h.om.row q row hr
    exact ⟨A', c', by rw [e2]; exact h1, keepI _ _ _ _ h2⟩
  · unfold swapV at hu hu'
    rw [hsv] at hu hu'
    have ap : ∀ (a b : Nat) (u u' : Value), a ≠ b → vs[a]? = some u → vs[b]? = some u' → Apart u u' := by
      intro a b u u' hab hu hu'
      rcases Nat.lt_or_gt_of_ne hab with hlt | hlt
      · exact h.om.apart a b u u' hlt hu hu'
      · rcases h.om.apart b a u' u hlt hu' hu with h1 | h1
        · rcases hq : u.ownBlock with _ | q
          · exact .inl hq
          · exact .inr (by rw [hq, h1]; simp)
        · exact .inr (fun e => h1 e.symm)
    split at hu <;> split at hu' <;> (try (split at hu)) <;> (try (split at hu'))
    all_goals first | omega | exact ap _ _ _ _ (by omega) hu hu'
  · unfold swapV at hu
    rw [hsv] at hu
    split at hu
    · exact h.foot _ _ _ hu hq
    · split at hu <;> exact h.foot _ _ _ hu hq
theorem OMF.keep {w w' : World} {B hi g n c : Nat} {M : List (List Int)} {vs : List Value} {S : Nat → Prop} (h : OMF w B hi g n c M vs) (k : Keep S w w') (hs : ∀ q, q < hi → ¬ S q) : OMF w' B hi g n c M vs :=
  ⟨⟨owns_keep h.om.out k (fun q hq => by simp [Value.ownBlock] at hq; subst hq; exact hs _ h.gl), h.om.len, fun r row hr => by
    obtain ⟨A', c', h1, h2⟩ := h.om.row r row hr
    exact ⟨A', c', h1, owns_keep h2 k (fun q hq => hs q (h.foot r _ q h1 hq).2)⟩, h.om.apart⟩, h.gl, h.foot⟩
theorem OMF.drewN {w : World} {B hi g n c : Nat} {M : List (List Int)} {vs : List Value} (h : OMF w B hi g n c M vs) (m : Nat) : OMF (w.drewN m) B hi g n c M vs := h.keep (drewN_keep (S := fun _ => False) w m) (fun _ _ h => h)
theorem OMF.setRow {w w' : World} {B hi g n c : Nat} {M : List (List Int)} {vs : List Value} (h : OMF w B hi g n c M vs) {r : Nat} {row new : List Int} {A' : Option Addr} {c' : Nat} (hr : M[r]? = some row) (hv : vs[r]? = some (Value.slice A' row.length c'))
    (hl : new.length = row.length) (hI : OI w' B A' row.length c' new) (k : Keep (fun q => (Value.slice A' row.length c').ownBlock = some q) w w') : OMF w' B hi g n c (M.set r new) vs :=
  ⟨h.om.setRow hr hv hl hI k, h.gl, h.foot⟩
def headI (hs : List Nat) : List Int := hs.map fun (x : Nat) => (x : Int)
def RedPost (p : Int) (B g n c cols : Nat) (M : List (List Int)) (w : World) (e : Ending) (w' : World) : Prop :=
  ∃ (A' : Option Addr) (c' : Nat) (vs' : List Value), e = .returned (.slice A' (elim p M cols).2.length c') ∧ OM w' B (some ⟨g, 0, none⟩) n c (elim p M cols).1 vs' ∧ OI w' w.heap.size A' (elim p M cols).2.length c' (headI (elim p M cols).2) ∧ Below B w w'
theorem elim_stay {p : Int} {M : List (List Int)} {j : Nat} (h : firstW (elim p M j).1 j ((elim p M j).1.length - (elim p M j).2.length) (elim p M j).2.length = none) : elim p M (j + 1) = elim p M j := by
  show stepE p (elim p M j).1 (elim p M j).2 j = _
  unfold stepE; rw [h]
theorem elim_go {p : Int} {M : List (List Int)} {j r : Nat} (h : firstW (elim p M j).1 j ((elim p M j).1.length - (elim p M j).2.length) (elim p M j).2.length = some r) :
    elim p M (j + 1) = (clearM p (chooseM p (elim p M j).1 r (elim p M j).2.length j) (elim p M j).2.length j, (elim p M j).2 ++ [j]) := by
  show stepE p (elim p M j).1 (elim p M j).2 j = _
  unfold stepE; rw [h]
theorem OMF.swapped {w : World} {B hi g n c : Nat} {M : List (List Int)} {vs : List Value} (h : OMF w B hi g n c M vs) {r t : Nat} (hr : r < n) (ht : t < n) {sR sT : Value} (hvR : vs[r]? = some sR) (hvT : vs[t]? = some sT) :
    OMF (((w.setCell ⟨g, r, none⟩ sT).setCell ⟨g, t, none⟩ sR).drew) B hi g n c (swapM M r t) (swapV vs r t) ∧ Keep (· = g) w (((w.setCell ⟨g, r, none⟩ sT).setCell ⟨g, t, none⟩ sR).drew) := by
  obtain ⟨h1, h2⟩ := World.ownsRow.stored h.om.out r sT
  obtain ⟨h3, h4⟩ := World.ownsRow.stored h1 t sR
  have e : (vs.set r sT).set t sR = swapV vs r t := by
    unfold swapV
    rw [List.getD_eq_getElem?_getD, List.getD_eq_getElem?_getD, hvR, hvT]; rfl
  rw [e] at h3
  have hk : Keep (· = g) w (((w.setCell ⟨g, r, none⟩ sT).setCell ⟨g, t, none⟩ sR).drew) := Keep.drew (((setCell_keep w ⟨g, r, none⟩ sT).trans (setCell_keep _ ⟨g, t, none⟩ sR)))
  exact ⟨h.swap hr ht h3 hk, hk⟩
theorem swapM_at {M : List (List Int)} {r t : Nat} (hr : r < M.length) (ht : t < M.length) : (swapM M r t)[t]? = M[r]? := by
  unfold swapM; rw [swap_get [] M r t t hr ht, if_pos rfl]
theorem getD_of {M : List (List Int)} {i : Nat} {row : List Int} (h : M[i]? = some row) : M.getD i [] = row := by rw [List.getD_eq_getElem?_getD, h]; rfl
theorem getD_congr {l l' : List (List Int)} {i j : Nat} (h : l[i]? = l'[j]?) : l.getD i [] = l'.getD j [] := by simp [List.getD_eq_getElem?_getD, h]
theorem clearM_top (p : Int) (M : List (List Int)) (top col : Nat) (h : top < M.length) : (clearM p M top col)[top]? = M[top]? := by
  rw [clearM_get _ _ _ _ _ h]; unfold clearRow; rw [if_pos rfl, List.getD_eq_getElem?_getD, List.getElem?_eq_getElem h]; rfl
theorem mix_top {p : Int} {M : List (List Int)} {top col k : Nat} (h : top < M.length) (hk : k ≤ M.length) : ((clearM p M top col).take k ++ M.drop k)[top]? = M[top]? := by
  by_cases hlt : top < k
  · rw [List.getElem?_append_left (by simp [clearM_len]; omega), List.getElem?_take, if_pos hlt, clearM_top _ _ _ _ h]
  · rw [List.getElem?_append_right (by simp [clearM_len]; omega), List.getElem?_drop]
    congr 1
    simp [clearM_len]; omega
set_option maxHeartbeats 800000 in
theorem reduceRows_any (p : Int) (B g n c l cols : Nat) (M : List (List Int)) (vs : List Value) (w : World) (h : OM w B (some ⟨g, 0, none⟩) n c M vs) (hp : primeB p = true) (hv : VM p l M) (hl : cols ≤ l) (hl9 : l ≤ 9) (hn1 : 1 ≤ n) (hn8 : n ≤ 24) :
    Calls Tryd.prog 27 #[.int .i64 p, .slice (some ⟨g, 0, none⟩) n c, .int .i64 (cols : Int)] w (RedPost p B g n c cols M w) := by
  have hpb := prime_ge hp
  have hg : B ≤ g ∧ g < w.heap.size := h.out.lt g rfl
  have hML := h.len
  have hinv := fun j => elim_inv hp hv j
  have HINV := Lib.hid hinv
  have HP := Lib.hid hp
  have HF := Lib.hid (OMF.mk h hg.2 h.foot)
  have HML := Lib.hid hML
  clear h hinv hp hv hML
  go_enter Tryd.func27, Tryd.ntmps27
  go_wp2_with (fail)
  go_loopw [7, 14] (fun v i wr => ∃ (j : Nat) (A' : Option Addr) (c' : Nat) (vs' : List Value), j ≤ cols ∧ i = .int .i64 j ∧ v = .slice A' (elim p M j).2.length c' ∧ OMF wr B w.heap.size g n c (elim p M j).1 vs' ∧ OI wr w.heap.size A' (elim p M j).2.length c' (headI (elim p M j).2) ∧ Below B w wr) (fun _ i _ => cols - (intOf i).toNat)
  case atStart => exact ⟨0, _, _, _, by omega, rfl, rfl, HF.out, World.ownsRow_nil _ _ _ _, Below.refl _ _⟩
  case round =>
    obtain ⟨j, A', c', vs', hj, rfl, rfl, hom, hch, hbel⟩ := hrel
    obtain ⟨wo, rfl⟩ : ∃ wo : World, wo = wr := ⟨_, rfl⟩
    obtain ⟨hi1, hi2, hi3, hi4⟩ := HINV.out j
    obtain ⟨N, hN⟩ : ∃ N, (elim p M j).1 = N := ⟨_, rfl⟩
    obtain ⟨hs, hHS⟩ : ∃ hs, (elim p M j).2 = hs := ⟨_, rfl⟩
    obtain ⟨top, htop⟩ : ∃ top, hs.length = top := ⟨_, rfl⟩
    rw [hN, HML.out] at hi1
    rw [hN] at hi2 hom
    rw [hHS, htop] at hch hi3
    rw [hHS] at hi4
    rw [HML.out] at hi3
    simp only [hHS, htop]
    by_cases hlt : j < cols
    · obtain ⟨br, hRA⟩ := hom.om.ra
      have HRA := Lib.hid hRA
      have HO := Lib.hid hom
      have HCH := Lib.hid hch
      have HB := Lib.hid hbel
      have HV := Lib.hid hi2
      have HN := Lib.hid hN
      have HHS := Lib.hid hHS
      have HT := Lib.hid htop
      have HNL := Lib.hid hi1
      clear hRA hom hch hbel hi2 hN hHS htop hi1
      go_wp2_with (fail)
      refine (firstRowWith_any _ n c br 0 N j top _ HRA.out (fun row hr => by rw [(HV.out row hr).1]; omega) hi3 (by omega)).mono ?_
      rintro e w' ⟨x, rfl, hx, rfl⟩
      rcases hx with ⟨rfl, hnone⟩ | ⟨r, rfl, hrn, hsome⟩
      · have HS := Lib.hid (elim_stay (p := p) (M := M) (j := j) (by rw [HN.out, HHS.out, HT.out]; exact hnone))
        clear hnone
        go_wp2_with (fail)
        go_roundw
        case rel => exact ⟨j + 1, A', c', vs', by omega, by go_num, by rw [HS.out, HHS.out, HT.out], by rw [HS.out, HN.out]; exact HO.out, by rw [HS.out, HHS.out, HT.out]; exact HCH.out, HB.out⟩
        case measure => simp [intOf]; omega
      · have HG := Lib.hid (elim_go (p := p) (M := M) (j := j) (r := r) (by rw [HN.out, HHS.out, HT.out]; exact hsome))
        obtain ⟨hf1, hf2, hf3, _⟩ := firstW_some hsome
        have hNL := HNL.out
        rw [HN.out, HHS.out, HT.out] at HG
        have htn : top < n := by omega
        rw [hNL] at hrn
        obtain ⟨rowR, AR, cR, hmR, hvR, hcR, hIR, hfR⟩ := HO.out.cell hrn
        obtain ⟨rowT, AT, cT, hmT, hvT, hcT, hIT, hfT⟩ := HO.out.cell htn
        have HG2 := Lib.hid HG
        have HF3 := Lib.hid hf3
        have HMR := Lib.hid hmR
        have HMT := Lib.hid hmT
        have HVR := Lib.hid hvR
        have HVT := Lib.hid hvT
        have HIR := Lib.hid hIR
        have HIT := Lib.hid hIT
        clear HG hf3 hmR hmT hvR hvT hIR hIT hsome hNL
        obtain ⟨v2, hv2⟩ : ∃ v2, (wo.setCell ⟨g, r, none⟩ (.slice AT rowT.length cT)).cell? ⟨g, top, none⟩ = some v2 := by
          by_cases e : r = top
          · subst e; exact ⟨_, World.cell?_setCell_same _ _ _ hcR⟩
          · exact ⟨_, (World.cell?_setCell_other _ _ _ _ (fun h => e (congrArg Addr.off h))).trans hcT⟩
        go_wp2_with (fail)
        go_region
        go_wp2_with (fail)
        obtain ⟨hO2, hK2⟩ := HO.out.swapped hrn htn HVR.out HVT.out
        obtain ⟨w2, hw2⟩ : ∃ w2, w2 = (((wo.setCell ⟨g, r, none⟩ (.slice AT rowT.length cT)).setCell ⟨g, top, none⟩ (.slice AR rowR.length cR)).drew) := ⟨_, rfl⟩
        rw [← hw2] at hO2 hK2 ⊢
        have HK2 := Lib.hid (hK2.mono (T := fun q => B ≤ q ∧ q < w.heap.size) (fun q _ hq => by rw [hq]; exact hg))
        clear hw2 hv2 hK2 hcR hcT hfR hfT
        obtain ⟨row2, A2, c2, hm2, hv2, hc2, hI2, hf2⟩ := hO2.cell htn
        have hVM2 := HV.out.swap (i := r) (j := top) (by rw [HNL.out]; exact hrn) (by rw [HNL.out]; exact htn)
        obtain ⟨hrl2, hrv2⟩ := hVM2 row2 (List.mem_of_getElem? hm2)
        rw [hrl2] at hv2 hc2 hI2
        obtain ⟨b2, hIA2⟩ := hI2.ia
        obtain ⟨x, hx, hxc⟩ := hIA2.cell j (by omega)
        obtain rfl := hIA2.adr (by omega)
        rw [Nat.zero_add] at hxc
        have hxn := hrv2 x (List.mem_of_getElem? hx)
        have hat2 : at2 (swapM N r top) top j = x := at2_of hm2 hx
        have hx0 : x ≠ 0 := by
          rw [← hat2]
          have e : (swapM N r top)[top]? = N[r]? := swapM_at (by rw [HNL.out]; exact hrn) (by rw [HNL.out]; exact htn)
          have e2 : at2 (swapM N r top) top j = at2 N r j := by unfold at2; rw [getD_congr e]
          rw [e2]; exact HF3.out
        obtain ⟨u, hu⟩ : ∃ u, invM p x = u := ⟨_, rfl⟩
        have hnb : numBack p x = u := by unfold numBack; rw [if_pos ⟨hxn, hx0⟩, hu]
        have hun : numB p u = true := by rw [← hu]; exact numB_mk HP.out (inv_bd HP.out).1 (inv_bd HP.out).2
        have hcalc := fun m => quiet_same (n := m) (w := w2) (implNumBack p x (w2.drewN m))
        rw [hnb] at hcalc
        have HCA := Lib.hid hcalc
        have HM3 := Lib.hid (show (swapM N r top).set top (scaleRow p u row2) = chooseM p N r top j by unfold chooseM; rw [hat2, hu, getD_of hm2])
        have HO2 := Lib.hid hO2
        have HM2 := Lib.hid hm2
        have HV2 := Lib.hid hv2
        have HI2 := Lib.hid hI2
        have HRV2 := Lib.hid hrv2
        have HRL2 := Lib.hid hrl2
        have HUN := Lib.hid hun
        clear hcalc hO2 hm2 hv2 hI2 hrv2 hrl2 hIA2 hx hxn hat2 hx0 hu hnb hun hVM2
        refine wp_quiet_tail 14 (by kernel_rfl) (by kernel_rfl) ?_
        simp only [List.take_succ_cons, List.take_zero, List.drop_succ_cons, List.drop_zero]
        repeat (go_big_quiet_step ((go_at_call 48; exact HCA.out _)))
        refine wpQuiet_nil ?_
        intro _ hw'
        obtain ⟨nq, hw''⟩ := hw'
        subst hw''
        go_wp2_with (fail)
        refine (multiplyRow_any p u B _ l c2 row2 _ (owns_keep HI2.out (drewN_keep (S := fun _ => False) _ _) (fun _ _ h => h)) HUN.out HRV2.out (by omega)).mono ?_
        rintro e w3 ⟨rfl, hI3, hK3⟩
        have hO3 := (HO2.out.drewN nq).setRow HM2.out (by rw [HRL2.out]; exact HV2.out) (scaleRow_len p u row2) (by rw [HRL2.out]; exact hI3) (by rw [HRL2.out]; exact hK3)
        rw [HM3.out] at hO3
        have HO3 := Lib.hid hO3
        have HK3 := Lib.hid ((HK2.out.drewN nq).trans (hK3.mono (T := fun q => B ≤ q ∧ q < w.heap.size) (fun q _ hq => HO2.out.foot top _ q HV2.out hq)))
        obtain ⟨M3, hM3⟩ : ∃ M3, chooseM p N r top j = M3 := ⟨_, rfl⟩
        have HL3 := Lib.hid (show M3.length = n by rw [← hM3, chooseM_len, HNL.out])
        have HV3 := Lib.hid (show VM p l M3 by rw [← hM3]; exact HV.out.choose HP.out (by rw [HNL.out]; exact hrn) (by rw [HNL.out]; exact htn))
        rw [hM3] at HO3 HG2
        clear hO3 hI3 hK3 hM3 HCA HM3 HO2 HM2 HV2 HI2 HRV2 HRL2 HUN HK2 hc2 hxc hf2
        go_wp2_with (fail)
        go_loopw [56] (fun i wi => ∃ k : Nat, k ≤ n ∧ i = .int .i64 k ∧ OMF wi B w.heap.size g n c ((clearM p M3 top j).take k ++ M3.drop k) (swapV vs' r top) ∧ Keep (fun q => B ≤ q ∧ q < w.heap.size) wo wi) (fun i _ => n - (intOf i).toNat)
        case atStart => exact ⟨0, by omega, rfl, by simpa using HO3.out, HK3.out⟩
        case round =>
          obtain ⟨k, hk, rfl, hom, hkp⟩ := hrel
          by_cases hlk : k < n
          · have hL3 := HL3.out
            obtain ⟨row, Ai, ci, hmi, hvi, hci, hIi, hfi⟩ := hom.cell hlk
            obtain ⟨rowt, At, ct, hmt, hvt, hct, hIt, hft⟩ := hom.cell htn
            rw [mix_get _ _ _ (clearM_len p M3 top j) (by rw [clearM_len]; omega)] at hmi
            rw [mix_top (by omega) (by omega)] at hmt
            obtain ⟨hrl, hrv⟩ := HV3.out row (List.mem_of_getElem? hmi)
            obtain ⟨hrlt, hrvt⟩ := HV3.out rowt (List.mem_of_getElem? hmt)
            rw [hrl] at hvi hci hIi
            rw [hrlt] at hvt hct hIt
            by_cases hkt : k = top
            · have hq : ((k : Int) != (top : Int)) = false := eqInt hkt
              have HS := Lib.hid (show ((clearM p M3 top j).take k ++ M3.drop k) = ((clearM p M3 top j).take (k + 1) ++ M3.drop (k + 1)) by
                have h1 := set_step (clearM p M3 top j) M3 k row (clearM_len _ _ _ _) (by rw [hkt, clearM_top _ _ _ _ (by omega), ← hkt]; exact hmi)
                rw [← h1]
                refine (List.ext_getElem? fun q => ?_)
                by_cases e : q = k
                · subst e; rw [List.getElem?_set_self (by simp [clearM_len]; omega), mix_get _ _ _ (clearM_len p M3 top j) (by rw [clearM_len]; omega)]; exact hmi
                · rw [List.getElem?_set_ne (fun e' => e e'.symm)])
              have HO := Lib.hid hom
              clear hmi hvi hIi hmt hvt hIt hrl hrv hrlt hrvt hkt hL3 hom
              go_wp2_with (fail)
              go_roundw
              case rel => exact ⟨k + 1, by omega, by go_num, by rw [← HS.out]; exact HO.out, hkp⟩
              case measure => simp [intOf]; omega
            · have hq : ((k : Int) != (top : Int)) = true := neInt hkt
              obtain ⟨bi, hIAi⟩ := hIi.ia
              obtain ⟨bt, hIAt⟩ := hIt.ia
              obtain ⟨x, hx, hxc⟩ := hIAi.cell j (by omega)
              have hxn := hrv x (List.mem_of_getElem? hx)
              have hat : at2 M3 k j = x := at2_of hmi hx
              have hadr := hIAi.adr (by omega)
              have hadt := hIAt.adr (by omega)
              subst hadr hadt
              rw [Nat.zero_add] at hxc
              have hbne : bt ≠ bi := by
                have ap : Apart (Value.slice (some ⟨bt, 0, none⟩) l ct) (Value.slice (some ⟨bi, 0, none⟩) l ci) := by
                  rcases Nat.lt_or_gt_of_ne hkt with hh | hh
                  · rcases hom.om.apart k top _ _ hh hvi hvt with h1 | h1
                    · simp [Value.ownBlock] at h1
                    · exact .inr (fun e => h1 e.symm)
                  · exact hom.om.apart top k _ _ hh hvt hvi
                rcases ap with h1 | h1
                · simp [Value.ownBlock] at h1
                · intro e; exact h1 (by simp [Value.ownBlock, e])
              have HSR := Lib.hid (show (clearM p M3 top j)[k]? = some (subRow p x row rowt) by
                rw [clearM_get _ _ _ _ _ (by omega)]; unfold clearRow; rw [if_neg hkt, hat, getD_of hmi, getD_of hmt])
              have HO := Lib.hid hom
              have HMI := Lib.hid hmi
              have HVI := Lib.hid hvi
              have HRL := Lib.hid hrl
              have HII := Lib.hid hIi
              have HIT := Lib.hid hIAt
              have HXN := Lib.hid hxn
              have HRV := Lib.hid hrv
              have HRVT := Lib.hid hrvt
              have HRLT := Lib.hid hrlt
              clear hom hmi hmt hvi hvt hrl hrv hrlt hrvt hIi hIt hIAi hIAt hx hxn hat hL3 hkt
              go_wp2_with (fail)
              refine wp_quiet_tail 10 (by kernel_rfl) (by kernel_rfl) ?_
              simp only [List.take_succ_cons, List.take_zero, List.drop_succ_cons, List.drop_zero]
              repeat (go_big_quiet_step (fail))
              refine wpQuiet_nil ?_
              intro _ hw'
              obtain ⟨nz, hw''⟩ := hw'
              subst hw''
              go_wp2_with (fail)
              refine (takeRow_any p x B _ l ci row _ ct bt 0 rowt _ (owns_keep HII.out (drewN_keep (S := fun _ => False) _ _) (fun _ _ h => h)) (HIT.out.drewN ⟨nz, rfl⟩) (fun q hq => by simp [Value.ownBlock] at hq; omega) HXN.out HRV.out HRVT.out (by omega)).mono ?_
              rintro e w5 ⟨rfl, hI5, hK5⟩
              have hO5 := (HO.out.drewN nz).setRow (by rw [mix_get _ _ _ (clearM_len p M3 top j) (by rw [clearM_len, HL3.out]; omega)]; exact HMI.out) (by rw [HRL.out]; exact HVI.out) (subRow_len p x row rowt (by rw [HRL.out, HRLT.out])) (by rw [HRL.out]; exact hI5) (by rw [HRL.out]; exact hK5)
              rw [set_step _ _ k _ (clearM_len _ _ _ _) HSR.out] at hO5
              have HO5 := Lib.hid hO5
              have HK5 := Lib.hid ((hkp.drewN nz).trans (hK5.mono (T := fun q => B ≤ q ∧ q < w.heap.size) (fun q _ hq => HO.out.foot k _ q HVI.out hq)))
              clear hO5 hI5 hK5 hkp
              go_wp2_with (fail)
              go_roundw
              case rel => exact ⟨k + 1, by omega, by go_num, HO5.out, HK5.out⟩
              case measure => simp [intOf]; omega
          · obtain rfl : k = n := by omega
            have e : (clearM p M3 top j).take k ++ M3.drop k = clearM p M3 top j := by
              rw [List.take_of_length_le (by rw [clearM_len, HL3.out]; omega), List.drop_of_length_le (by rw [HL3.out]; omega)]; simp
            rw [e] at hom
            have HO := Lib.hid hom
            have HKP := Lib.hid hkp
            have HCW := Lib.hid (show OI wr w.heap.size A' top c' (headI hs) from owns_keep HCH.out hkp (fun q hq hs => by have := (HCH.out.lt q hq).1; omega))
            have HBW := Lib.hid (HB.out.trans (hkp.below (B := B) (by have := (HO.out.om.out.lt g rfl).1; have := HB.out.size; omega) (fun q hq => hq.1)))
            have hsw := HBW.out.size
            clear e hom hkp
            go_wp2_with (at_builtin; refine wpList_app_int rfl (.tmp 76) (.tmp 78) rfl w.heap.size A' top c' _ rfl (HCW.out.alloc _) (j : Int) _ _ rfl ?_ (by omega) ?_ ?_)
            · simp
            · simp; omega
            · intro A6 c6 w6 hI6 hK6
              have HI6 := Lib.hid hI6
              have hst : ∀ q, (Value.slice A' top c').ownBlock = some q → w.heap.size ≤ q := fun q hq => ((HCW.out).lt q hq).1
              have HO6 := Lib.hid ((HO.out.keep ((Keep.refl (fun _ => False) _).alloc (.cells #[.int .i64 (j : Int)] 3)) (fun _ _ h => h)).keep hK6 (fun q hq hs => by have := hst q hs; omega))
              have HB6 := Lib.hid ((HBW.out.alloc (by omega) (.cells #[.int .i64 (j : Int)] 3)).trans (hK6.below (B := B) (by simp; omega) (fun q hq => by have := hst q hq; omega)))
              clear hI6 hK6 hst
              go_wp2_with (fail)
              go_roundw
              case rel => exact ⟨j + 1, A6, c6, swapV vs' r top, by omega, by go_num, by rw [HG2.out]; simp [HT.out], by rw [HG2.out]; exact HO6.out, by rw [HG2.out]; simpa [headI, HT.out] using HI6.out, HB6.out⟩
              case measure => simp [intOf]; omega
    · obtain rfl : j = cols := by omega
      have HO := Lib.hid hom
      have HCH := Lib.hid hch
      have HN := Lib.hid hN
      have HHS := Lib.hid hHS
      have HT := Lib.hid htop
      clear hom hch hN hHS htop
      go_wp2_with (fail)
      go_ret
      exact ⟨A', c', vs', by rw [HHS.out, HT.out]; rfl, by rw [HN.out]; exact HO.out.om, by rw [HHS.out, HT.out]; exact HCH.out, hbel⟩
end Go.Proofs.YtecmclaockmgeaaDoor
namespace Go.Proofs.YtecmclaockmgeaaDoor
open Go.RowKit
theorem copyRows_any (A : Option Addr) (n c b o l : Nat) (M : List (List Int)) (w : World) (h : RA w A n b o M) (hn : n ≤ 8) (hl1 : 1 ≤ l) (hl8 : l ≤ 9) (hr : ∀ row ∈ M, row.length = l) :
    Calls Tryd.prog 28 #[.slice A n c] w (MadeM n M w) := by
  have hlen := h.len
  have HL := Lib.hid hlen
  have H := Lib.hid h
  have HR := Lib.hid hr
  have hmk := run_make_row' (P := Tryd.prog) 36 23 (.slice none 0 0) 24 Tryd.underlying36 infoInts rfl .i64 .i64 n (by omega) (by omega)
  have hmk2 := run_make_row' (P := Tryd.prog) 23 3 (.int .i64 0) 8 Tryd.underlying23 infoInt rfl .i64 .i64 l (by omega) (by omega)
  clear h hlen hr
  go_enter Tryd.func28, Tryd.ntmps28
  go_wp2_with (fail)
  go_loopw [11] (fun i wr => ∃ (k : Nat) (vs : List Value), k ≤ n ∧ i = .int .i64 k ∧ Half wr w.heap.size n k M vs ∧ Below w.heap.size w wr) (fun i _ => n - (intOf i).toNat)
  case atStart => exact ⟨0, [], by omega, rfl, Half.start w n M (by omega), (Below.refl _ _).alloc (Nat.le_refl _) _⟩
  case round =>
    obtain ⟨k, vs, hk, rfl, hown, hbel⟩ := hrel
    obtain ⟨wo, rfl⟩ : ∃ wo : World, wo = wr := ⟨_, rfl⟩
    by_cases hlt : k < n
    · have hs0 := hbel.size
      have hB0 := (hown.out.lt w.heap.size rfl).2
      obtain rfl := H.out.adr (by omega)
      obtain ⟨row, A1, c1, b1, o1, hrw, hcw, hI⟩ := H.out.row k hlt
      have hc := (keep_of_below hbel).cell hcw (fun h => h)
      have hrl := HR.out row (List.mem_of_getElem? hrw)
      rw [hrl] at hc hI
      obtain rfl := hI.adr (by omega)
      have hmade := made_ints wo l (by omega)
      have hML := HL.out
      have hzl : (List.replicate l (0 : Int)).length = l := by simp
      have hst := (hown.congr (M' := M.set k (List.replicate l 0)) (fun r hr => List.getElem?_set_ne (by omega))).step hlt (by simp [hML]) ((Below.refl wo.heap.size wo).alloc (Nat.le_refl _) (.cells (madeCells #[.int .i64 0] l) 3))
        (row := List.replicate l 0) (A := some ⟨wo.heap.size, 0, none⟩) (c := l) (List.getElem?_set_self (by omega)) (by rw [hzl]; exact hmade)
      rw [hzl] at hst
      have heq := World.setCell_alloc_past (w := wo) (.cells (madeCells #[.int .i64 0] l) 3) w.heap.size k (.slice (some ⟨wo.heap.size, 0, none⟩) l l) hB0
      rw [heq] at hst
      have ho := World.ownsRow.alloc hown.out (.cells (madeCells #[.int .i64 0] l) 3)
      have hcell := World.ownsRow.cellAt ho k (by omega)
      have hfr := World.ownsRow.frozenAt ho k
      obtain ⟨v0, hv0⟩ : ∃ v0, (wo.alloc (.cells (madeCells #[.int .i64 0] l) 3)).cell? ⟨w.heap.size, k, none⟩ = some v0 := by
        rw [hcell]; exact ⟨_, List.getElem?_eq_getElem (by have := hown.vlen; simp; omega)⟩
      obtain ⟨v1, hv1⟩ : ∃ v1, wo.cell? ⟨w.heap.size, k, none⟩ = some v1 := by
        rw [World.ownsRow.cellAt hown.out k (by omega)]; exact ⟨_, List.getElem?_eq_getElem (by have := hown.vlen; simp; omega)⟩
      have hout := World.cell?_setCell_same _ _ (.slice (some ⟨wo.heap.size, 0, none⟩) l l) hv1
      have HB := Lib.hid (show Below w.heap.size w ((wo.setCell ⟨w.heap.size, k, none⟩ (.slice (some ⟨wo.heap.size, 0, none⟩) l l)).alloc (.cells (madeCells #[.int .i64 0] l) 3)) from heq ▸ (hbel.alloc hs0 _).setCell (Nat.le_refl _) _)
      have hvl := hown.vlen
      have hvk : (vs ++ [Value.slice (some ⟨wo.heap.size, 0, none⟩) l l])[k]? = some (.slice (some ⟨wo.heap.size, 0, none⟩) l l) := by
        rw [List.getElem?_append_right (by omega)]; simp [hvl]
      have hMk : (M.set k (List.replicate l (0 : Int)))[k]? = some (List.replicate l 0) := List.getElem?_set_self (by omega)
      obtain ⟨A3, c3, hv3, hI3⟩ := hst.1.row k _ (by omega) hMk
      rw [hvk, hzl] at hv3
      simp only [Option.some.injEq, Value.slice.injEq, true_and] at hv3
      obtain ⟨rfl, rfl⟩ := hv3
      rw [hzl] at hI3
      have HST := Lib.hid hst.1
      have HVK := Lib.hid hvk
      have HMK := Lib.hid hMk
      have HI3 := Lib.hid hI3
      have HI := Lib.hid hI
      have HRW := Lib.hid hrw
      have HRL := Lib.hid hrl
      clear hcell ho hst heq hmade hown hbel hrw hcw hI hrl hzl hvk hMk hI3 hML
      go_wp2_with (with_reducible refine wpList_cpy rfl (.tmp 25) (.tmp 26) rfl (w.heap.size + 1) wo.heap.size l l (List.replicate l 0) rfl HI3.out c1 b1 o1 row rfl (HI.out.below HB.out) ?_)
      intro w5 v5 hI5 hK5
      have hset := HST.out.setRow (new := row) (by omega) HMK.out (by simpa using HVK.out) (by simp [HRL.out]) (by simpa using hI5) (hK5.mono (fun q _ hq => by rw [hq]; rfl))
      rw [List.set_set] at hset
      have HS := Lib.hid (hset.congr (M' := M) (fun r _ => by
        by_cases e : r = k
        · subst e; rw [List.getElem?_set_self (by rw [HL.out]; exact hlt)]; exact HRW.out
        · exact (List.getElem?_set_ne (fun e' => e e'.symm)).symm))
      have HB5 := Lib.hid (HB.out.trans (hK5.below (B := w.heap.size) HB.out.size (fun q hq => by rw [hq]; exact hs0)))
      clear hset hI5 hK5
      go_wp2_with (fail)
      go_roundw
      case rel => exact ⟨k + 1, _, by omega, by go_num, HS.out, HB5.out⟩
      case measure => simp [intOf]; omega
    · obtain rfl : k = n := by omega
      have HO := Lib.hid (hown.done HL.out)
      clear hown
      go_wp2_with (fail)
      go_ret
      exact ⟨_, _, _, rfl, HO.out, hbel⟩
end Go.Proofs.YtecmclaockmgeaaDoor
namespace Go.Proofs.YtecmclaockmgeaaDoor
open Go.RowKit
def formR (p : Int) (M : List (List Int)) : List (List Int) := if matB p M = true then (elim p M (M.headD []).length).1 else []
def rankR (p : Int) (M : List (List Int)) : Int := if matB p M = true then ((elim p M (M.headD []).length).2.length : Int) else -1
theorem VM_of_mat {p : Int} {M : List (List Int)} (h : matB p M = true) : VM p (M.headD []).length M := (matB_true h).2.2.2.2
theorem formR_yes {p : Int} {M : List (List Int)} (h : matB p M = true) : formR p M = (elim p M (M.headD []).length).1 := by unfold formR; rw [if_pos h]
theorem formR_no {p : Int} {M : List (List Int)} (h : matB p M = false) : formR p M = [] := by unfold formR; rw [if_neg (by simp [h])]
theorem OM.mono {w : World} {B B' n c : Nat} {A : Option Addr} {M : List (List Int)} {vs : List Value} (h : OM w B A n c M vs) (hB : B' ≤ B) : OM w B' A n c M vs :=
  ⟨owns_mono h.out hB, h.len, fun r row hr => let ⟨a, b, g1, g2⟩ := h.row r row hr; ⟨a, b, g1, owns_mono g2 hB⟩, h.apart⟩
end Go.Proofs.YtecmclaockmgeaaDoor
namespace Go.Proofs.YtecmclaockmgeaaDoor
open Go.RowKit
theorem below_undraw {B m : Nat} {w w' : World} (h : Below B (w.drewN m) w') : Below B w w' := ⟨h.os, h.tape, h.output, h.size, h.block⟩
theorem OM.addr {w : World} {B n c : Nat} {A : Option Addr} {M : List (List Int)} {vs : List Value} (h : OM w B A n c M vs) (hn : 1 ≤ n) : ∃ g, A = Option.some ⟨g, 0, Option.none⟩ := by
  rcases h.adr with ⟨_, h0, _⟩ | ⟨g, h1, _⟩
  · omega
  · exact ⟨g, h1⟩
def IntBelow (x : Int) (w : World) (e : Ending) (w' : World) : Prop := e = .returned (.int .i64 x) ∧ Below w.heap.size w w'
set_option maxHeartbeats 400000 in
theorem implMatRank (p : Int) (A : Option Addr) (n c b o : Nat) (M : List (List Int)) (w : World) (h : RA w A n b o M) :
    Calls Tryd.prog 12 #[.int .i64 p, .slice A n c] w (IntBelow (rankR p M) w) := by
  have hbig := h.big
  have H := Lib.hid h
  clear h
  rcases hv : matB p M
  · have HV := Lib.hid hv
    have HR := Lib.hid (show rankR p M = -1 by unfold rankR; rw [if_neg (by simp [hv])])
    clear hv
    go_enter Tryd.func12, Tryd.ntmps12
    go_wp2_with (fail)
    refine (implMatValid p A n c b o M _ H.out).mono ?_
    rintro e w1 ⟨rfl, rfl⟩
    rw [HV.out]
    go_wp2_with (fail)
    go_ret
    exact ⟨by rw [HR.out]; rfl, Below.refl _ _⟩
  · obtain ⟨hn1, hn8, hl1, hl8, hrows⟩ := matB_true hv
    have hL := H.out.len
    obtain ⟨l0, hl0⟩ : ∃ l0, (M.headD []).length = l0 := ⟨_, rfl⟩
    have hR : rankR p M = ((elim p M l0).2.length : Int) := by unfold rankR; rw [if_pos hv, hl0]
    have hvm := VM_of_mat hv
    have hp := prime_of_mat hv
    rw [hl0] at hl1 hl8 hrows hvm
    rw [hL] at hn1 hn8
    have HV := Lib.hid hv
    have HR := Lib.hid hR
    have HVM := Lib.hid hvm
    have HP := Lib.hid hp
    have HRW := Lib.hid (show ∀ row ∈ M, row.length = l0 from fun row hr => (hrows row hr).1)
    obtain ⟨row0, A0, c0, b0, o0, hm0, hc0, hI0⟩ := H.out.row 0 (by omega)
    have hr0 := HRW.out row0 (List.mem_of_getElem? hm0)
    rw [hr0, Nat.add_zero] at hc0
    obtain rfl := H.out.adr (by omega)
    clear hv hrows hl0 hR hvm hp hL hm0 hI0 hr0
    go_enter Tryd.func12, Tryd.ntmps12
    go_wp2_with (fail)
    refine (implMatValid p _ n c b o M _ H.out).mono ?_
    rintro e w1 ⟨rfl, rfl⟩
    rw [HV.out]
    go_wp2_with (fail)
    have hcd : (World.drew w).cell? ⟨b, o, none⟩ = some (.slice A0 l0 c0) := hc0
    have h0n : 0 < n := by omega
    go_region_held3 (fun w' => w'.cell? ⟨b, o, none⟩ = some (.slice A0 l0 c0)) (first | exact hcd | assumption) (first | (go_at_call 28; refine (copyRows_any _ n c b o l0 M _ (H.out.drewN ⟨1, rfl⟩) hn8 hl1 (by omega) HRW.out).mono ?_; rintro e w1 ⟨A1, c1, vs, rfl, hO, hB⟩; have hc1 := (keep_of_below hB).cell (show (World.drew w).cell? ⟨b, o, none⟩ = _ from hc0) (fun h => h); have HO := Lib.hid hO; clear hO) | (go_at_call 27; obtain ⟨g, hg⟩ := HO.out.addr hn1; subst hg; refine (reduceRows_any p _ g n c1 l0 l0 M vs _ HO.out HP.out HVM.out (Nat.le_refl _) (by omega) hn1 (by omega)).mono ?_; rintro e w2 ⟨A2, c2, vs2, rfl, hO2, hI2, hB2⟩; have hc2 := (keep_of_below (hB.trans hB2)).cell (show (World.drew w).cell? ⟨b, o, none⟩ = _ from hc0) (fun h => h); have HO2 := Lib.hid hO2; clear hO2 hI2))
    all_goals
      go_wp2_with (fail)
      go_ret
      exact ⟨by rw [HR.out]; rfl, below_undraw (hB.trans hB2)⟩
end Go.Proofs.YtecmclaockmgeaaDoor
namespace Go.Proofs.YtecmclaockmgeaaDoor
open Go.RowKit
theorem specCopy (A : Option Addr) (n c b o l : Nat) (M : List (List Int)) (w : World) (h : RA w A n b o M) (hn : n ≤ 24) (hl1 : 1 ≤ l) (hl9 : l ≤ 9) (hr : ∀ row ∈ M, row.length = l) :
    Calls Tryd.prog 55 #[.slice A n c] w (MadeM n M w) := by
  have hlen := h.len
  have HL := Lib.hid hlen
  have H := Lib.hid h
  have HR := Lib.hid hr
  clear h hlen hr
  go_enter Tryd.func55, Tryd.ntmps55
  go_wp2_with (fail)
  go_loopw [3, 4] (fun v i wr => ∃ (k : Nat) (Ao : Option Addr) (co : Nat) (vs : List Value), k ≤ n ∧ i = .int .i64 k ∧ v = .slice Ao k co ∧ OM wr w.heap.size Ao k co (M.take k) vs ∧ Below w.heap.size w wr) (fun _ i _ => n - (intOf i).toNat)
  case atStart => exact ⟨0, _, _, [], by omega, rfl, rfl, OM.empty w, (Below.refl _ _).alloc (Nat.le_refl _) _⟩
  case round =>
    obtain ⟨k, Ao, co, vs, hk, rfl, rfl, hown, hbel⟩ := hrel
    obtain ⟨wo, rfl⟩ : ∃ wo : World, wo = wr := ⟨_, rfl⟩
    by_cases hlt : k < n
    · obtain rfl := H.out.adr (by omega)
      obtain ⟨row, A1, c1, b1, o1, hrw, hcw, hI⟩ := H.out.row k hlt
      have hc := (keep_of_below hbel).cell hcw (fun h => h)
      have hrl := HR.out row (List.mem_of_getElem? hrw)
      rw [hrl] at hc hI
      obtain rfl := hI.adr (by omega)
      have hs0 := hbel.size
      have HO := Lib.hid hown
      have HB := Lib.hid hbel
      have HI := Lib.hid hI
      have HS := Lib.hid (take_snoc M k row hrw)
      have HRL := Lib.hid hrl
      clear hown hbel hI hrw hrl hcw
      have hc0 : (wo.alloc (.cells #[] 3)).cell? ⟨b, o + k, none⟩ = some (.slice (some ⟨b1, o1, none⟩) l c1) := by rw [World.cell?_alloc_lt _ _ _ (cell_lt hc)]; exact hc
      go_wp2_with (at_builtin; refine wpList_app_ints rfl (.tmp 13) (.tmp 17) rfl wo.heap.size _ 0 0 [] rfl (OI.empty wo) l c1 b1 o1 row rfl (HI.out.below (HB.out.alloc hs0 _)) (by omega) (by simp) ?_)
      intro A2 c2 w2 hI2 hK2
      have HI2 := Lib.hid (show OI w2 wo.heap.size A2 l c2 row by simpa using hI2)
      have hB2 : Below wo.heap.size wo w2 := ((Below.refl _ _).alloc (Nat.le_refl _) _).trans (hK2.below (by simp) (fun q hq => by simp [Value.ownBlock] at hq; omega))
      have HB2 := Lib.hid hB2
      have hs2 := hB2.size
      clear hI2 hK2 hB2
      go_wp2_with (at_builtin; refine wpList_app_row rfl (.tmp 12) (.tmp 19) rfl w.heap.size Ao k co vs rfl (World.ownsRow.alloc (owns_below HO.out.out HB2.out) _) A2 l c2 _ _ rfl ?_ (by omega) ?_ ?_)
      · simp
      · simp; omega
      · intro A3 c3 w3 ho3 hK3
        have hp := HO.out.push (HB2.out.alloc hs2 (.cells #[.slice A2 l c2] 23)) (row := row) (A1 := A2) (c1 := c2) (by rw [HRL.out]; exact HI2.out.alloc _) (by rw [HRL.out]; exact ho3) hK3 hs0
        rw [HS.out] at hp
        have HP := Lib.hid hp
        have HB3 := Lib.hid (HB.out.trans (((HB2.out.alloc hs2 (.cells #[.slice A2 l c2] 23)).mono hs0).trans (hK3.below (B := w.heap.size) (by simp; omega) (fun q hq => (HO.out.out.lt q hq).1))))
        clear hp ho3 hK3
        go_wp2_with (fail)
        go_roundw
        case rel => exact ⟨k + 1, _, _, _, by omega, by go_num, rfl, HP.out, HB3.out⟩
        case measure => simp [intOf]; omega
    · obtain rfl : k = n := by omega
      have e : M.take k = M := List.take_of_length_le (by rw [HL.out]; omega)
      rw [e] at hown
      have HO := Lib.hid hown
      clear e hown
      go_wp2_with (fail)
      go_ret
      exact ⟨_, _, _, rfl, HO.out, hbel⟩
end Go.Proofs.YtecmclaockmgeaaDoor
namespace Go.Proofs.YtecmclaockmgeaaDoor
open Go.RowKit
/-- the form and the columns of the chosen rows -/
def FormPost (p : Int) (l : Nat) (M : List (List Int)) (w : World) (e : Ending) (w' : World) : Prop :=
  ∃ (Ao : Option Addr) (co : Nat) (vs : List Value) (Ah : Option Addr) (ch : Nat), e = .returned (.tuple #[.slice Ao M.length co, .slice Ah (elim p M l).2.length ch]) ∧ OM w' w.heap.size Ao M.length co (elim p M l).1 vs ∧ OI w' w.heap.size Ah (elim p M l).2.length ch (headI (elim p M l).2) ∧ Below w.heap.size w w'
theorem OMF.cellAt {w : World} {B hi g n c l : Nat} {M : List (List Int)} {vs : List Value} {p : Int} (h : OMF w B hi g n c M vs) (hv : VM p l M) {r : Nat} (hr : r < n) :
    ∃ (row : List Int) (b' c' : Nat), M[r]? = some row ∧ row.length = l ∧ (∀ x ∈ row, numB p x = true) ∧ (1 ≤ l → vs[r]? = some (Value.slice (some ⟨b', 0, none⟩) l c') ∧ w.cell? ⟨g, r, none⟩ = some (.slice (some ⟨b', 0, none⟩) l c') ∧ OI w B (some ⟨b', 0, none⟩) l c' row ∧ IA w (some ⟨b', 0, none⟩) l b' 0 row) ∧ w.frozen? ⟨g, r, none⟩ = false := by
  obtain ⟨row, A', c', h1, h2, h3, h4, h5⟩ := h.cell hr
  obtain ⟨h6, h7⟩ := hv row (List.mem_of_getElem? h1)
  rw [h6] at h2 h3 h4
  obtain ⟨b', hia⟩ := h4.ia
  refine ⟨row, b', c', h1, h6, h7, fun hl => ?_, h5⟩
  obtain rfl := hia.adr (by omega)
  exact ⟨h2, h3, h4, hia⟩
theorem OMF.apart {w : World} {B hi g n c : Nat} {M : List (List Int)} {vs : List Value} (h : OMF w B hi g n c M vs) {i j : Nat} (hij : i ≠ j) {l l' ci cj bi bj : Nat} (hi' : vs[i]? = some (Value.slice (some ⟨bi, 0, none⟩) l ci)) (hj : vs[j]? = some (Value.slice (some ⟨bj, 0, none⟩) l' cj)) : bi ≠ bj := by
  intro e
  subst e
  rcases Nat.lt_or_gt_of_ne hij with hh | hh
  · rcases h.om.apart i j _ _ hh hi' hj with h1 | h1
    · simp [Value.ownBlock] at h1
    · exact h1 rfl
  · rcases h.om.apart j i _ _ hh hj hi' with h1 | h1
    · simp [Value.ownBlock] at h1
    · exact h1 rfl
theorem subRow_full {p t : Int} {xs ys : List Int} {n : Nat} (hx : xs.length = n) (hy : ys.length = n) : (subRow p t xs ys).length = n := by rw [subRow_len _ _ _ _ (by omega), hx]
theorem mixDone {α : Type} {xs ys : List α} {n : Nat} (hx : xs.length = n) (hy : ys.length = n) : xs.take n ++ ys.drop n = xs := by
  rw [List.take_of_length_le (by omega), List.drop_of_length_le (by omega)]; simp
theorem mixLen {xs ys : List Int} {n q : Nat} (hx : xs.length = n) (hy : ys.length = n) (hq : q ≤ n) : (xs.take q ++ ys.drop q).length = n := by simp; omega
theorem set_same {α : Type} {l : List α} {i : Nat} {a : α} (h : l[i]? = some a) : l.set i a = l := by
  refine List.ext_getElem? fun q => ?_
  by_cases e : q = i
  · subst e; rw [List.getElem?_set_self (List.getElem?_eq_some_iff.1 h).1, h]
  · rw [List.getElem?_set_ne (fun e' => e e'.symm)]
/-- a row as a part of it is changed: still valid rows -/
theorem VM.mixRow {p : Int} {l q i : Nat} {M : List (List Int)} {xs ys : List Int} (h : VM p l M) (hx : xs.length = l) (hy : ys.length = l) (hq : q ≤ l) (hvx : ∀ x ∈ xs, numB p x = true) (hvy : ∀ y ∈ ys, numB p y = true) : VM p l (M.set i (xs.take q ++ ys.drop q)) :=
  h.set (mixLen hx hy hq) (fun z hz => by
    rcases List.mem_append.1 hz with hz | hz
    · exact hvx z (List.mem_of_mem_take hz)
    · exact hvy z (List.mem_of_mem_drop hz))
theorem OMF.swapped' {w : World} {B hi g n c : Nat} {M : List (List Int)} {vs : List Value} (h : OMF w B hi g n c M vs) {r t : Nat} (hr : r < n) (ht : t < n) {sR sT : Value} (hvR : vs[r]? = some sR) (hvT : vs[t]? = some sT) :
    OMF ((w.setCell ⟨g, r, none⟩ sT).setCell ⟨g, t, none⟩ sR) B hi g n c (swapM M r t) (swapV vs r t) ∧ Keep (· = g) w ((w.setCell ⟨g, r, none⟩ sT).setCell ⟨g, t, none⟩ sR) := by
  obtain ⟨h1, _⟩ := World.ownsRow.stored h.om.out r sT
  obtain ⟨h3, _⟩ := World.ownsRow.stored h1 t sR
  have e : (vs.set r sT).set t sR = swapV vs r t := by
    unfold swapV
    rw [List.getD_eq_getElem?_getD, List.getD_eq_getElem?_getD, hvR, hvT]; rfl
  rw [e] at h3
  have hk : Keep (· = g) w ((w.setCell ⟨g, r, none⟩ sT).setCell ⟨g, t, none⟩ sR) := (setCell_keep w ⟨g, r, none⟩ sT).trans (setCell_keep _ ⟨g, t, none⟩ sR)
  exact ⟨h.swap hr ht h3 hk, hk⟩
theorem VM.mixM {p : Int} {l top col k : Nat} {M : List (List Int)} (hp : primeB p = true) (h : VM p l M) (ht : top < M.length) : VM p l ((clearM p M top col).take k ++ M.drop k) := fun row hr => by
  rcases List.mem_append.1 hr with hr | hr
  · exact h.clear hp ht row (List.mem_of_mem_take hr)
  · exact h row (List.mem_of_mem_drop hr)
theorem mix_stay {p : Int} {top col k : Nat} {M : List (List Int)} (ht : top < M.length) (hk : k < M.length) (e : k = top) : (clearM p M top col).take k ++ M.drop k = (clearM p M top col).take (k + 1) ++ M.drop (k + 1) := by
  have hg : M[k]? = some (M[k]'hk) := List.getElem?_eq_getElem hk
  have h1 := set_step (clearM p M top col) M k _ (clearM_len _ _ _ _) (by rw [e, clearM_top _ _ _ _ ht, ← e]; exact hg)
  rw [← h1]
  exact (set_same (by rw [mix_get _ _ _ (clearM_len p M top col) (by rw [clearM_len]; exact hk)]; exact hg)).symm
/-- one store into a row -/
theorem OMF.store {w : World} {B hi g n c : Nat} {M : List (List Int)} {vs : List Value} (h : OMF w B hi g n c M vs) {r l b' c' q : Nat} {row : List Int} (hr : M[r]? = some row) (hl : row.length = l) (hv : vs[r]? = some (Value.slice (some ⟨b', 0, none⟩) l c')) (hI : OI w B (some ⟨b', 0, none⟩) l c' row) (x : Int) :
    OMF (w.setCell ⟨b', q, none⟩ (.int .i64 x)) B hi g n c (M.set r (row.set q x)) vs ∧ Keep (fun q => B ≤ q ∧ q < hi) w (w.setCell ⟨b', q, none⟩ (.int .i64 x)) := by
  subst hl
  obtain ⟨h1, _⟩ := World.ownsRow.stored hI q (.int .i64 x)
  rw [ints_set] at h1
  have hk := setCell_keep w ⟨b', q, none⟩ (.int .i64 x)
  exact ⟨h.setRow hr hv (by simp) h1 (hk.mono (fun y _ hy => by rw [hy]; rfl)), hk.mono (fun y _ hy => by have := h.foot r _ b' hv rfl; rw [hy]; exact this)⟩
set_option maxRecDepth 100000 in
set_option maxHeartbeats 1600000 in
theorem specForm (p : Int) (A : Option Addr) (n c b o l : Nat) (M : List (List Int)) (w : World) (h : RA w A n b o M) (hp : primeB p = true) (hv : VM p l M) (hn1 : 1 ≤ n) (hn8 : n ≤ 24) (hl1 : 1 ≤ l) (hl9 : l ≤ 9) :
    Calls Tryd.prog 33 #[.int .i64 p, .slice A n c] w (FormPost p l M w) := by
  have hpb := prime_ge hp
  have hML := h.len
  have hinv := fun j => elim_inv hp hv j
  have HRW := Lib.hid (show ∀ row ∈ M, row.length = l from fun row hr => (hv row hr).1)
  have HINV := Lib.hid hinv
  have HP := Lib.hid hp
  have HML := Lib.hid hML
  have H := Lib.hid h
  clear h hinv hp hv hML
  go_enter Tryd.func33, Tryd.ntmps33
  go_wp2_with (fail)
  refine (specCopy A n c b o l M _ H.out hn8 hl1 hl9 HRW.out).mono ?_
  rintro e w1 ⟨A1, c1, vs, rfl, hO, hB⟩
  obtain ⟨g, hg⟩ := hO.addr hn1
  subst hg
  have hgl : w.heap.size ≤ g ∧ g < w1.heap.size := hO.out.lt g rfl
  have HF := Lib.hid (OMF.mk hO hgl.2 hO.foot)
  have hs1 := hB.size
  clear hO
  go_wp2_with (fail)
  go_loopw [7, 8, 9] (fun v t i wr => ∃ (j : Nat) (A' : Option Addr) (c' : Nat) (vs' : List Value), j ≤ l ∧ i = .int .i64 j ∧ t = .int .i64 ((elim p M j).2.length : Nat) ∧ v = .slice A' (elim p M j).2.length c' ∧ OMF wr w.heap.size w1.heap.size g n c1 (elim p M j).1 vs' ∧ OI wr w1.heap.size A' (elim p M j).2.length c' (headI (elim p M j).2) ∧ Below w.heap.size w wr ∧ w1.heap.size ≤ wr.heap.size) (fun _ _ i _ => l - (intOf i).toNat)
  case atStart => exact ⟨0, _, _, _, by omega, rfl, rfl, rfl, HF.out.keep ((Keep.refl (fun _ => False) w1).alloc _) (fun _ _ h => h), OI.empty w1, hB.alloc hs1 _, by simp⟩
  case round =>
    obtain ⟨j, A', c', vs', hj, rfl, rfl, rfl, hom, hch, hbel, hszo⟩ := hrel
    obtain ⟨wo, rfl⟩ : ∃ wo : World, wo = wr := ⟨_, rfl⟩
    obtain ⟨hi1, hi2, hi3, hi4⟩ := HINV.out j
    obtain ⟨N, hN⟩ : ∃ N, (elim p M j).1 = N := ⟨_, rfl⟩
    obtain ⟨hs, hHS⟩ : ∃ hs, (elim p M j).2 = hs := ⟨_, rfl⟩
    obtain ⟨top, htop⟩ : ∃ top, hs.length = top := ⟨_, rfl⟩
    rw [hN, HML.out] at hi1
    rw [hN] at hi2 hom
    rw [hHS, htop] at hch hi3
    rw [hHS] at hi4
    rw [HML.out] at hi3
    simp only [hHS, htop]
    obtain ⟨r0, b0, c0, _, _, _, h0x, _⟩ := hom.cellAt hi2 (r := 0) (by omega)
    have hc0 := (h0x hl1).2.1
    have HO := Lib.hid hom
    have HCH := Lib.hid hch
    have HB := Lib.hid hbel
    have HV := Lib.hid hi2
    have HN := Lib.hid hN
    have HHS := Lib.hid hHS
    have HT := Lib.hid htop
    have HNL := Lib.hid hi1
    have hlo : 0 < n := by omega
    clear hom hch hbel hi2 hN hHS htop hi1 h0x
    by_cases hlt : j < l
    · go_wp2_with (fail)
      go_loop [10] (fun i => ∃ k : Nat, top ≤ k ∧ k ≤ n ∧ i = .int .i64 k ∧ Hid (∀ q, top ≤ q → q < k → at2 N q j = 0)) (fun i => n - (intOf i).toNat)
      case atStart => exact ⟨top, Nat.le_refl _, by omega, rfl, fun q h1 h2 => absurd h2 (by omega)⟩
      case round =>
        obtain ⟨k, hk0, hk, rfl, hz⟩ := hrel
        by_cases hlk : k < n
        · obtain ⟨row, bk, ck, hmk, hrl, hrv, hkx, _⟩ := HO.out.cellAt HV.out hlk
          obtain ⟨hvk, hck, hIk, hIA⟩ := hkx hl1
          obtain ⟨x, hx, hxc⟩ := hIA.cell j hlt
          rw [Nat.zero_add] at hxc
          have HAT := Lib.hid (at2_of hmk hx)
          have HVK := Lib.hid hvk
          clear hkx hmk hrl hrv hvk hIk hIA hx
          by_cases hx0 : x = 0
          · have hb : (x == 0) = true := by simp [hx0]
            have HX0 := Lib.hid hx0
            clear hx0
            go_wp2_with (fail)
            go_round
            case rel => exact ⟨k + 1, by omega, by omega, by go_num, fun q h1 h2 => if e : q = k then by rw [e, HAT.out, HX0.out] else hz.out q h1 (by omega)⟩
            case measure => simp [intOf]; omega
          · have hb : (x == 0) = false := by simp [hx0]
            have hsome : firstW N j (N.length - top) top = some k := firstW_is hk0 (by rw [HNL.out]; omega) (by rw [HAT.out]; exact hx0) hz.out
            have HG := Lib.hid (elim_go (p := p) (M := M) (j := j) (r := k) (by rw [HN.out, HHS.out, HT.out]; exact hsome))
            have HX0 := Lib.hid hx0
            clear hx0 hsome
            have hqn : ((k : Int) == (n : Int)) = false := by rw [beq_eq_false_iff_ne]; omega
            have htn : top < n := by omega
            obtain ⟨rowT, bT, cT, hmT, hrlT, hrvT, hTx, hfT⟩ := HO.out.cellAt HV.out htn
            obtain ⟨hvT, hcT, hIT, hIAT⟩ := hTx hl1
            have hfk := World.ownsRow.frozenAt HO.out.om.out k
            obtain ⟨hO2, hK2⟩ := HO.out.swapped' hlk htn HVK.out hvT
            obtain ⟨v2, hv2⟩ : ∃ v2, (wo.setCell ⟨g, k, none⟩ (.slice (some ⟨bT, 0, none⟩) l cT)).cell? ⟨g, top, none⟩ = some v2 := by
              by_cases e : k = top
              · subst e; exact ⟨_, World.cell?_setCell_same _ _ _ hck⟩
              · exact ⟨_, (World.cell?_setCell_other _ _ _ _ (fun h => e (congrArg Addr.off h))).trans hcT⟩
            have HO2 := Lib.hid hO2
            have HK2 := Lib.hid hK2
            clear hO2 hK2 hmT hrlT hrvT hTx hvT hIT hIAT
            -- up to the inverse: the rows are exchanged
            obtain ⟨w2, hw2⟩ : ∃ w2, w2 = (wo.setCell ⟨g, k, none⟩ (.slice (some ⟨bT, 0, none⟩) l cT)).setCell ⟨g, top, none⟩ (.slice (some ⟨bk, 0, none⟩) l ck) := ⟨_, rfl⟩
            rw [← hw2] at HO2 HK2
            have HVM2 := Lib.hid (HV.out.swap (i := k) (j := top) (by rw [HNL.out]; exact hlk) (by rw [HNL.out]; exact htn))
            obtain ⟨row2, b2, c2, hm2, hrl2, hrv2, h2x, hf2⟩ := HO2.out.cellAt HVM2.out htn
            obtain ⟨hv2', hc2, hI2, hIA2⟩ := h2x hl1
            obtain ⟨x2, hx2, hxc2⟩ := hIA2.cell j hlt
            rw [Nat.zero_add] at hxc2
            have hxn := hrv2 x2 (List.mem_of_getElem? hx2)
            have hat2 : at2 (swapM N k top) top j = x2 := at2_of hm2 hx2
            have hx20 : x2 ≠ 0 := by
              rw [← hat2]
              have e2 : at2 (swapM N k top) top j = at2 N k j := by unfold at2; rw [getD_congr (swapM_at (by rw [HNL.out]; exact hlk) (by rw [HNL.out]; exact htn))]
              rw [e2, HAT.out]; exact HX0.out
            obtain ⟨u, hu⟩ : ∃ u, invM p x2 = u := ⟨_, rfl⟩
            have HUN := Lib.hid (show numB p u = true by rw [← hu]; exact numB_mk HP.out (inv_bd HP.out).1 (inv_bd HP.out).2)
            have HXN := Lib.hid (numB_true hxn).2
            have HM3 := Lib.hid (show (swapM N k top).set top (scaleRow p u row2) = chooseM p N k top j by unfold chooseM; rw [hat2, hu, getD_of hm2])
            have HU := Lib.hid hu
            have HM2 := Lib.hid hm2
            have HRV2 := Lib.hid hrv2
            have HRL2 := Lib.hid hrl2
            clear hm2 hrl2 hrv2 h2x hv2' hI2 hIA2 hx2 hxn hat2 hx20 hu
            rw [hw2] at hc2 hxc2
            go_wp2_with (fail)
            rw [← hw2]
            refine (specBack p x2 _ HP.out HXN.out.1 HXN.out.2).mono ?_
            rintro e wb ⟨rfl, rfl⟩
            rw [HU.out]
            have HKW := Lib.hid (HK2.out.mono (T := fun q => w.heap.size ≤ q ∧ q < w1.heap.size) (fun q _ hq => by rw [hq]; exact hgl))
            clear hw2 hv2 hck hcT hf2 hfk hfT hc2 hxc2 hxc HX0 HAT HVK HK2 HU
            go_wp2_with (fail)
            go_loopw [13] (fun i wi => ∃ q : Nat, q ≤ l ∧ i = .int .i64 q ∧ OMF wi w.heap.size w1.heap.size g n c1 ((swapM N k top).set top ((scaleRow p u row2).take q ++ row2.drop q)) (swapV vs' k top) ∧ Keep (fun q => w.heap.size ≤ q ∧ q < w1.heap.size) wo wi) (fun i _ => l - (intOf i).toNat)
            case atStart => exact ⟨0, by omega, rfl, by rw [List.take_zero, List.nil_append, List.drop_zero, set_same HM2.out]; exact HO2.out, HKW.out⟩
            case round =>
              obtain ⟨q, hq, rfl, hom, hkp⟩ := hrel
              have hVq := HVM2.out.mixRow (i := top) (by rw [scaleRow_len, HRL2.out]) HRL2.out hq (scaleRow_valid (t := u) HP.out row2) HRV2.out
              obtain ⟨rowq, bq, cq, hmq, hrlq, hrvq, hqx, hfq⟩ := hom.cellAt hVq htn
              obtain ⟨hvq, hcq, hIq, hIAq⟩ := hqx hl1
              rw [List.getElem?_set_self (by rw [swapM_len, HNL.out]; exact htn)] at hmq
              obtain rfl := Option.some.inj hmq
              by_cases hlq : q < l
              · have hl := HRL2.out
                have hxq : row2[q]? = some (row2[q]'(by omega)) := List.getElem?_eq_getElem (by omega)
                obtain ⟨z, hz⟩ : ∃ z, row2[q]'(by omega) = z := ⟨_, rfl⟩
                rw [hz] at hxq
                have hzb := numB_bd (HRV2.out z (List.mem_of_getElem? hxq))
                have hub := numB_bd HUN.out
                have hmb := mul_bd hzb.1 (by omega) hub.1 (by omega)
                obtain ⟨z', hz', hzc⟩ := hIAq.cell q hlq
                rw [mix_get _ _ _ (scaleRow_len p u row2) (by rw [scaleRow_len]; omega), hxq] at hz'
                obtain rfl := Option.some.inj hz'
                rw [Nat.zero_add] at hzc
                have hfz := World.ownsRow.frozenAt hIq q
                obtain ⟨hO4, hK4⟩ := hom.store (List.getElem?_set_self (by rw [swapM_len, HNL.out]; exact htn)) hrlq hvq hIq (q := q) (z * u % p)
                rw [List.set_set, mix_set (scaleRow_len p u row2) (scaleRow_get hxq)] at hO4
                have HO4 := Lib.hid hO4
                have HK4 := Lib.hid (hkp.trans hK4)
                clear hO4 hK4 hkp hom hVq hrlq hrvq hqx hvq hIq hIAq hl hxq hz hz'
                go_wp2_with (fail)
                refine wp_quiet_tail 17 (by kernel_rfl) (by kernel_rfl) ?_
                simp only [List.take_succ_cons, List.take_zero, List.drop_succ_cons, List.drop_zero]
                repeat (go_big_quiet_step (fail))
                refine wpQuiet_nil ?_
                intro _ hw'
                obtain ⟨nq, hw''⟩ := hw'
                subst hw''
                go_wp2_with (fail)
                go_roundw
                case rel => exact ⟨q + 1, by omega, by go_num, HO4.out.drewN _, HK4.out.drewN _⟩
                case measure => simp [intOf]; omega
              · obtain rfl : q = l := by omega
                rw [mixDone (by rw [scaleRow_len]; exact HRL2.out) HRL2.out, HM3.out] at hom
                obtain ⟨M3, hM3⟩ : ∃ M3, chooseM p N k top j = M3 := ⟨_, rfl⟩
                have HL3 := Lib.hid (show M3.length = n by rw [← hM3, chooseM_len, HNL.out])
                have HV3 := Lib.hid (show VM p q M3 by rw [← hM3]; exact HV.out.choose HP.out (by rw [HNL.out]; exact hlk) (by rw [HNL.out]; exact htn))
                rw [HN.out, HHS.out, HT.out] at HG
                rw [hM3] at hom HG
                have HO3 := Lib.hid hom
                have HK3 := Lib.hid hkp
                have HG2 := Lib.hid HG.out
                clear hom hkp HG hM3 HM3 hVq hmq hrlq hrvq hqx hvq hIq hIAq HO2 HVM2 HKW HRV2 HRL2 HM2 HUN HXN
                go_wp2_with (fail)
                go_loopw [14, 15, 16] (fun i _ _ wi => ∃ k2 : Nat, k2 ≤ n ∧ i = .int .i64 k2 ∧ OMF wi w.heap.size w1.heap.size g n c1 ((clearM p M3 top j).take k2 ++ M3.drop k2) (swapV vs' k top) ∧ Keep (fun q => w.heap.size ≤ q ∧ q < w1.heap.size) wo wi) (fun i _ _ _ => n - (intOf i).toNat)
                case atStart => exact ⟨0, by omega, rfl, by simpa using HO3.out, HK3.out⟩
                case round =>
                  obtain ⟨k2, hk2, rfl, hom, hkp⟩ := hrel
                  by_cases hlk2 : k2 < n
                  · have hL3 := HL3.out
                    have hVM := Lib.hid (VM.mixM (top := top) (col := j) (k := k2) HP.out HV3.out (by omega))
                    obtain ⟨row, bi, ci, hmi, hrl, hrv, hix, hfi⟩ := hom.cellAt hVM.out hlk2
                    obtain ⟨hvi, hci, hIi, hIAi⟩ := hix hl1
                    obtain ⟨rowt, bt, ct, hmt, hrlt, hrvt, htx, hft⟩ := hom.cellAt hVM.out htn
                    obtain ⟨hvt, hct, hIt, hIAt⟩ := htx hl1
                    rw [mix_get _ _ _ (clearM_len p M3 top j) (by rw [clearM_len]; omega)] at hmi
                    rw [mix_top (by omega) (by omega)] at hmt
                    obtain ⟨x, hx, hxc⟩ := hIAi.cell j hlt
                    rw [Nat.zero_add] at hxc
                    by_cases hkt : k2 = top
                    · have hqq : ((k2 : Int) != (top : Int)) = false := eqInt hkt
                      have HS := Lib.hid (mix_stay (p := p) (M := M3) (top := top) (col := j) (k := k2) (by omega) (by omega) hkt)
                      have HO := Lib.hid hom
                      have HKP := Lib.hid hkp
                      clear hmi hvi hIi hmt hvt hIt hrl hrv hrlt hrvt hkt hL3 hom hkp hIAi hIAt hix htx hx
                      go_wp2_with (fail)
                      go_loop [16] (fun i => i = .int .i64 0) (fun _ => 0)
                      case atStart => rfl
                      case round =>
                        obtain rfl := hrel
                        go_wp2_with (fail)
                        go_roundw
                        case rel => exact ⟨k2 + 1, by omega, by go_num, by rw [← HS.out]; exact HO.out, HKP.out⟩
                        case measure => simp [intOf]; omega
                    · have hqq : ((k2 : Int) != (top : Int)) = true := neInt hkt
                      have hxn := hrv x (List.mem_of_getElem? hx)
                      have hat : at2 M3 k2 j = x := at2_of hmi hx
                      have HSR := Lib.hid (show (clearM p M3 top j)[k2]? = some (subRow p x row rowt) by
                        rw [clearM_get _ _ _ _ _ (by omega)]; unfold clearRow; rw [if_neg hkt, hat, getD_of hmi, getD_of hmt])
                      have HO := Lib.hid hom
                      have HKP := Lib.hid hkp
                      have HMI := Lib.hid hmi
                      have HMT := Lib.hid hmt
                      have HRL := Lib.hid hrl
                      have HXN := Lib.hid hxn
                      have HRV := Lib.hid hrv
                      have HRVT := Lib.hid hrvt
                      have HRLT := Lib.hid hrlt
                      clear hom hkp hmi hmt hvi hvt hrl hrv hrlt hrvt hIi hIt hIAi hIAt hx hxn hat hL3 hix htx
                      go_wp2_with (fail)
                      go_loopw [16] (fun i wi => ∃ s : Nat, s ≤ q ∧ i = .int .i64 s ∧ OMF wi w.heap.size w1.heap.size g n c1 (((clearM p M3 top j).take k2 ++ M3.drop k2).set k2 ((subRow p x row rowt).take s ++ row.drop s)) (swapV vs' k top) ∧ Keep (fun q => w.heap.size ≤ q ∧ q < w1.heap.size) wo wi) (fun i _ => q - (intOf i).toNat)
                      case atStart => exact ⟨0, by omega, rfl, by rw [List.take_zero, List.nil_append, List.drop_zero, set_same (by rw [mix_get _ _ _ (clearM_len p M3 top j) (by rw [clearM_len, HL3.out]; exact hlk2)]; exact HMI.out)]; exact HO.out, HKP.out⟩
                      case round =>
                        obtain ⟨s, hs', rfl, hom, hkp⟩ := hrel
                        have hsl : (subRow p x row rowt).length = q := subRow_full HRL.out HRLT.out
                        have hVq := hVM.out.mixRow (i := k2) hsl HRL.out hs' (subRow_valid HP.out row rowt) HRV.out
                        obtain ⟨rowq, bq, cq, hmq, hrlq, hrvq, hqx, hfq⟩ := hom.cellAt hVq hlk2
                        obtain ⟨hvq, hcq, hIq, hIAq⟩ := hqx hl1
                        obtain ⟨rowt', bt', ct', hmt', hrlt', hrvt', htx', hft'⟩ := hom.cellAt hVq htn
                        obtain ⟨hvt', hct', hIt', hIAt'⟩ := htx' hl1
                        have hml : k2 < ((clearM p M3 top j).take k2 ++ M3.drop k2).length := by simp [clearM_len, HL3.out]; omega
                        rw [List.getElem?_set_self hml] at hmq
                        obtain rfl := Option.some.inj hmq
                        rw [List.getElem?_set_ne (by intro e; rw [e] at hqq; simp at hqq), mix_top (by rw [HL3.out]; omega) (by rw [HL3.out]; omega), HMT.out] at hmt'
                        obtain rfl := Option.some.inj hmt'
                        by_cases hlq : s < q
                        · have hl := HRL.out
                          have hlt' := HRLT.out
                          have hxq : row[s]? = some (row[s]'(by omega)) := List.getElem?_eq_getElem (by omega)
                          obtain ⟨z, hz⟩ : ∃ z, row[s]'(by omega) = z := ⟨_, rfl⟩
                          rw [hz] at hxq
                          have hzb := numB_bd (HRV.out z (List.mem_of_getElem? hxq))
                          obtain ⟨z', hz', hzc⟩ := hIAq.cell s hlq
                          rw [mix_get _ _ _ (by rw [hsl]; omega) (by rw [hsl]; exact hlq), hxq] at hz'
                          obtain rfl := Option.some.inj hz'
                          obtain ⟨y, hy, hyc⟩ := hIAt'.cell s hlq
                          have hyb := numB_bd (HRVT.out y (List.mem_of_getElem? hy))
                          have hxb := numB_bd HXN.out
                          have hmb := mul_bd hxb.1 (by omega) hyb.1 (by omega)
                          rw [Nat.zero_add] at hzc hyc
                          have hfz := World.ownsRow.frozenAt hIq s
                          obtain ⟨hO4, hK4⟩ := hom.store (List.getElem?_set_self hml) hrlq hvq hIq (q := s) ((z - x * y) % p)
                          rw [List.set_set, mix_set (by rw [hsl]; omega) (subRow_get hxq hy)] at hO4
                          have HO4 := Lib.hid hO4
                          have HK4 := Lib.hid (hkp.trans hK4)
                          obtain ⟨u', hu'⟩ : ∃ u', (z - x * y) % p = u' := ⟨_, rfl⟩
                          rw [hu'] at HO4 HK4
                          have HU' := Lib.hid hu'
                          clear hO4 hK4 hkp hom hVq hrlq hrvq hqx hvq hIq hIAq hl hxq hz hz' hy hml hsl hlt' hrlt' hrvt' htx' hvt' hIt' hIAt' hu'
                          go_wp2_with (fail)
                          refine wp_quiet_tail 25 (by kernel_rfl) (by kernel_rfl) ?_
                          simp only [List.take_succ_cons, List.take_zero, List.drop_succ_cons, List.drop_zero]
                          repeat (go_big_quiet_step ((go_at_call 57; exact quiet_same (l1Mod_is HU'.out _ hpb.1 hpb.2))))
                          refine wpQuiet_nil ?_
                          intro _ hw'
                          obtain ⟨nq, hw''⟩ := hw'
                          subst hw''
                          go_wp2_with (fail)
                          go_roundw
                          case rel => exact ⟨s + 1, by omega, by go_num, HO4.out.drewN _, HK4.out.drewN _⟩
                          case measure => simp [intOf]; omega
                        · obtain rfl : s = q := by omega
                          rw [mixDone hsl HRL.out, set_step _ _ k2 _ (clearM_len _ _ _ _) HSR.out] at hom
                          have HO5 := Lib.hid hom
                          have HK5 := Lib.hid hkp
                          clear hom hkp hVq hrlq hrvq hqx hvq hIq hIAq hml hsl hrlt' hrvt' htx' hvt' hIt' hIAt'
                          go_wp2_with (fail)
                          go_roundw
                          case rel => exact ⟨k2 + 1, by omega, by go_num, HO5.out, HK5.out⟩
                          case measure => simp [intOf]; omega
                  · obtain rfl : k2 = n := by omega
                    rw [mixDone (xs := clearM p M3 top j) (ys := M3) (n := k2) (by rw [clearM_len]; exact HL3.out) HL3.out] at hom
                    have HO := Lib.hid hom
                    have HKP := Lib.hid hkp
                    have HCW := Lib.hid (show OI wr w1.heap.size A' top c' (headI hs) from owns_keep HCH.out hkp (fun q hq hs => by have := (HCH.out.lt q hq).1; omega))
                    have HBW := Lib.hid (HB.out.trans (hkp.below (B := w.heap.size) (by have := HB.out.size; omega) (fun q hq => hq.1)))
                    have hsw := HBW.out.size
                    have hsw2 : w1.heap.size ≤ wr.heap.size := Nat.le_trans hszo hkp.size
                    clear hom hkp hcq
                    go_wp2_with (at_builtin; refine wpList_app_int rfl (.tmp 156) (.tmp 158) rfl w1.heap.size A' top c' _ rfl (HCW.out.alloc _) (j : Int) _ _ rfl ?_ (by omega) ?_ ?_)
                    · simp
                    · simp; omega
                    · intro A6 c6 w6 hI6 hK6
                      have HI6 := Lib.hid hI6
                      have hst : ∀ q, (Value.slice A' top c').ownBlock = some q → w1.heap.size ≤ q := fun q hq => ((HCW.out).lt q hq).1
                      have HO6 := Lib.hid ((HO.out.keep ((Keep.refl (fun _ => False) _).alloc (.cells #[.int .i64 (j : Int)] 3)) (fun _ _ h => h)).keep hK6 (fun q hq hs => by have := hst q hs; omega))
                      have HB6 := Lib.hid ((HBW.out.alloc (by omega) (.cells #[.int .i64 (j : Int)] 3)).trans (hK6.below (B := w.heap.size) (by simp; omega) (fun q hq => by have := hst q hq; omega)))
                      have hsw6 : w1.heap.size ≤ w6.heap.size := Nat.le_trans (by simp; omega) hK6.size
                      clear hI6 hK6 hst
                      go_wp2_with (fail)
                      go_roundw
                      case rel => exact ⟨j + 1, A6, c6, swapV vs' k top, by omega, by go_num, by rw [HG2.out]; simp [HT.out], by rw [HG2.out]; simp [HT.out], by rw [HG2.out]; exact HO6.out, by rw [HG2.out]; simpa [headI, HT.out] using HI6.out, HB6.out, hsw6⟩
                      case measure => simp [intOf]; omega
        · obtain rfl : k = n := by omega
          have hnone : firstW N j (N.length - top) top = none := firstW_not (fun q h1 h2 => hz.out q h1 (by rw [HNL.out] at h2; omega))
          have HS := Lib.hid (elim_stay (p := p) (M := M) (j := j) (by rw [HN.out, HHS.out, HT.out]; exact hnone))
          have hqn : ((k : Int) == (k : Int)) = true := by simp
          clear hnone
          go_wp2_with (fail)
          go_roundw
          case rel => exact ⟨j + 1, A', c', vs', by omega, by go_num, by rw [HS.out, HHS.out, HT.out], by rw [HS.out, HHS.out, HT.out], by rw [HS.out, HN.out]; exact HO.out, by rw [HS.out, HHS.out, HT.out]; exact HCH.out, HB.out, hszo⟩
          case measure => simp [intOf]; omega
    · obtain rfl : j = l := by omega
      go_wp2_with (fail)
      go_ret2
      exact ⟨_, _, _, _, _, by rw [HML.out, HHS.out, HT.out]; rfl, by rw [HN.out, HML.out]; exact HO.out.om, by rw [HHS.out, HT.out]; exact owns_mono HCH.out hs1, HB.out⟩
end Go.Proofs.YtecmclaockmgeaaDoor
namespace Go.Proofs.YtecmclaockmgeaaDoor
open Go.RowKit
theorem below_head {B m : Nat} {w w1 w' : World} (hm : w1 = w.drewN m) (h : Below B w1 w') : Below B w w' := by subst hm; exact below_undraw h
theorem RA.seen {w : World} {A : Option Addr} {n b o : Nat} {M : List (List Int)} (h : RA w A n b o M) (m : Nat) : RA (w.drewN m) A n b o M := h.drewN ⟨m, rfl⟩
theorem specMatRank (p : Int) (A : Option Addr) (n c b o : Nat) (M : List (List Int)) (w : World) (h : RA w A n b o M) :
    Calls Tryd.prog 15 #[.int .i64 p, .slice A n c] w (IntBelow (rankR p M) w) := by
  have hbig := h.big
  have H := Lib.hid h
  clear h
  rcases hv : matB p M
  · have HV := Lib.hid hv
    have HR := Lib.hid (show rankR p M = -1 by unfold rankR; rw [if_neg (by simp [hv])])
    clear hv
    go_enter Tryd.func15, Tryd.ntmps15
    go_wp2_with (fail)
    refine (specMatValid p A n c b o M _ H.out).mono ?_
    rintro e w1 ⟨rfl, m, rfl⟩
    rw [HV.out]
    go_wp2_with (fail)
    go_ret
    exact ⟨by rw [HR.out]; rfl, below_undraw (Below.refl _ _)⟩
  · obtain ⟨hn1, hn8, hl1, hl8, hrows⟩ := matB_true hv
    have hL := H.out.len
    obtain ⟨l0, hl0⟩ : ∃ l0, (M.headD []).length = l0 := ⟨_, rfl⟩
    have hR : rankR p M = ((elim p M l0).2.length : Int) := by unfold rankR; rw [if_pos hv, hl0]
    have hvm := VM_of_mat hv
    have hp := prime_of_mat hv
    rw [hl0] at hl1 hl8 hrows hvm
    rw [hL] at hn1 hn8
    have hinv := elim_inv hp hvm l0
    have HV := Lib.hid hv
    have HR := Lib.hid hR
    have HVM := Lib.hid hvm
    have HP := Lib.hid hp
    have hlen := hinv.2.2.1
    clear hv hrows hl0 hR hvm hp hinv
    go_enter Tryd.func15, Tryd.ntmps15
    go_wp2_with (fail)
    refine (specMatValid p A n c b o M _ H.out).mono ?_
    rintro e w1 ⟨rfl, m, rfl⟩
    rw [HV.out]
    go_wp2_with (fail)
    refine (specForm p A n c b o l0 M _ (H.out.seen m) HP.out HVM.out hn1 (by omega) hl1 (by omega)).mono ?_
    rintro e w2 ⟨A2, c2, vs2, A3, c3, rfl, hO, hI, hB⟩
    have HB := Lib.hid (below_undraw hB)
    clear hO hI hB
    go_wp2_with (fail)
    go_ret
    exact ⟨by rw [HR.out]; rfl, HB.out⟩
theorem formR_tot (p : Int) (M : List (List Int)) : tot (formR p M) ≤ 64 := by
  rcases h : matB p M
  · rw [formR_no h]; simp [tot]
  · rw [formR_yes h]
    obtain ⟨h1, h2, h3, h4, _⟩ := matB_true h
    obtain ⟨g1, g2, _, _⟩ := elim_inv (prime_of_mat h) (VM_of_mat h) (M.headD []).length
    have := tot_rows (elim p M (M.headD []).length).1 8 (fun row hr => by rw [(g2 row hr).1]; omega)
    omega
end Go.Proofs.YtecmclaockmgeaaDoor
