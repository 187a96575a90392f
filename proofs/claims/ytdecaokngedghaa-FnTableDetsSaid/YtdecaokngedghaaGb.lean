/-
  The contracts of the functions that look into rows and change one row: firstRowWith, negative, multiplyRow, takeRow.
  The contract of reduceRows.
  The contract of copyRows.
  The contracts of the program's MatForm and MatRank.
  The contract of the program's MatRank.
  The contracts of the model's l1Copy and l1Mod.
  The contract of the model's l1Form.
  The contracts of the model's MatForm and MatRank.
  Plain mathematics of the kernel; the contracts of the program's MatKernel and of what it calls.
  The contract of the model's MatKernel.
  Plain mathematics of MatSolve; the contract of the program's.
  The contract of the model's MatSolve.
-/
import Derived.Test.YtdecaokngedghaaGa
import Derived.Test.YtdecaokngedghaaElim
import Derived.BigRegion
import Derived.Test.YtdecaokngedghaaRules
import Derived.Deep.RegionHeld3
import Derived.Test.YtdecaokngedghaaMod
import Derived.Maps.AppendAt
import Derived.Test.YtdecaokngedghaaRowV
import Derived.Deep.AppendLies
namespace Go.Proofs.Ytdecaokngedghaa
open Go.RowKit
theorem at2_of {M : List (List Int)} {i j : Nat} {row : List Int} {x : Int} (hr : M[i]? = some row) (hx : row[j]? = some x) : at2 M i j = x := by
  simp [at2, List.getD_eq_getElem?_getD, hr, hx]
/-- what firstRowWith answers: the first row from a given one on that is not 0 in the column; -1 if there is none -/
def FirstI (M : List (List Int)) (col : Nat) (from_ : Nat) (x : Int) : Prop :=
  (x = -1 ∧ firstW M col (M.length - from_) from_ = none) ∨ ∃ r : Nat, x = r ∧ r < M.length ∧ firstW M col (M.length - from_) from_ = some r
def FirstPost (Q : Int → Prop) (w : World) (e : Ending) (w' : World) : Prop := ∃ x : Int, e = .returned (.int .i64 x) ∧ Q x ∧ w = w'
theorem firstRowWith_any (A : Option Addr) (n c b o : Nat) (M : List (List Int)) (col fr : Nat) (w : World) (h : RA w A n b o M) (hl : ∀ row ∈ M, col < row.length) (hf : fr ≤ n) (hcol : col ≤ 1000) :
    Calls Try.prog 79 #[.slice A n c, .int .i64 (col : Int), .int .i64 (fr : Int)] w (FirstPost (FirstI M col fr) w) := by
  have hbig := h.big
  have H := Lib.hid h
  have HL := Lib.hid hl
  clear h hl
  go_enter Try.func79, Try.ntmps79
  go_wp2_with (fail)
  go_loop [7] (fun i => ∃ k : Nat, fr ≤ k ∧ k ≤ n ∧ i = .int .i64 k ∧ Hid (∀ j, fr ≤ j → j < k → at2 M j col = 0)) (fun i => n - (intOf i).toNat)
  case atStart => exact ⟨fr, Nat.le_refl _, hf, rfl, fun j h1 h2 => absurd h2 (by omega)⟩
  case round =>
    obtain ⟨k, hk0, hk, rfl, hz⟩ := hrel
    by_cases hlt : k < n
    · obtain rfl := H.out.adr (by omega)
      obtain ⟨row, A1, c1, b1, o1, hr, hc, hI⟩ := H.out.row k hlt
      have hcl := HL.out row (List.mem_of_getElem? hr)
      have hbig1 := hI.big
      obtain ⟨x, hx, hxc⟩ := hI.cell col hcl
      obtain rfl := hI.adr (by omega)
      have HA := Lib.hid (at2_of hr hx)
      clear hr hx hI
      by_cases hx0 : x = 0
      · have hb : (x != 0) = false := by simp [hx0]
        have HX := Lib.hid hx0
        clear hx0
        go_wp2_with (fail)
        go_round
        case rel => exact ⟨k + 1, by omega, by omega, by go_num, fun j h1 h2 => if e : j = k then by rw [e, HA.out, HX.out] else hz.out j h1 (by omega)⟩
        case measure => simp [intOf]; omega
      · have hb : (x != 0) = true := by simp [hx0]
        have HX := Lib.hid hx0
        clear hx0
        go_wp2_with (fail)
        go_ret
        exact ⟨_, rfl, .inr ⟨k, rfl, by rw [H.out.len]; omega, firstW_is hk0 (by rw [H.out.len]; omega) (by rw [HA.out]; exact HX.out) hz.out⟩, rfl⟩
    · go_wp2_with (fail)
      go_ret
      exact ⟨_, rfl, .inl ⟨rfl, firstW_not (fun j h1 h2 => hz.out j h1 (by rw [H.out.len] at h2; omega))⟩, rfl⟩
theorem negative_any (p a : Int) (w : World) (hp : 2 ≤ p) (hp' : p ≤ 13) (ha : 0 ≤ a) (ha' : a < p) :
    Calls Try.prog 80 #[.int .i64 p, .int .i64 a] w fun e w' => e = .returned (.int .i64 ((p - a) % p)) ∧ w = w' := by
  go_enter Try.func80, Try.ntmps80
  go_wp2_with (fail)
  go_ret
  exact ⟨rfl, rfl⟩
/-- a row that is changed from its beginning on, as far as it is -/
theorem mix_set {xs ys : List Int} {k : Nat} {y : Int} (hl : ys.length = xs.length) (hy : ys[k]? = some y) : (ys.take k ++ xs.drop k).set k y = ys.take (k + 1) ++ xs.drop (k + 1) := set_step ys xs k y hl hy
def RowPost (B n c : Nat) (A : Option Addr) (ys : List Int) (w : World) (e : Ending) (w' : World) : Prop :=
  e = .returned (.tuple #[]) ∧ OI w' B A n c ys ∧ Keep (fun g => (Value.slice A n c).ownBlock = some g) w w'
theorem scaleRow_get {p t : Int} {row : List Int} {k : Nat} {x : Int} (h : row[k]? = some x) : (scaleRow p t row)[k]? = some (x * t % p) := by simp [scaleRow, h]
theorem multiplyRow_any (p t : Int) (B : Nat) (A : Option Addr) (n c : Nat) (xs : List Int) (w : World) (h : OI w B A n c xs) (ht : numB p t = true) (hx : ∀ x ∈ xs, numB p x = true) (hn : n ≤ 1000) :
    Calls Try.prog 87 #[.int .i64 p, .slice A n c, .int .i64 t] w (RowPost B n c A (scaleRow p t xs) w) := by
  have htb := numB_bd ht
  have hlen := h.len
  have hadr := h.adr
  have H := Lib.hid h
  have HX := Lib.hid hx
  have HL := Lib.hid hlen
  have HA := Lib.hid hadr
  clear h hlen hadr hx ht
  go_enter Try.func87, Try.ntmps87
  go_wp2_with (fail)
  go_loopw [9] (fun i wr => ∃ j : Nat, j ≤ n ∧ i = .int .i64 j ∧ OI wr B A n c ((scaleRow p t xs).take j ++ xs.drop j) ∧ Keep (fun g => (Value.slice A n c).ownBlock = some g) w wr) (fun i _ => n - (intOf i).toNat)
  case atStart => exact ⟨0, by omega, rfl, by simpa using H.out, Keep.refl _ _⟩
  case round =>
    obtain ⟨j, hj, rfl, hown, hkeep⟩ := hrel
    by_cases hlt : j < n
    · obtain ⟨g, hg, hBg⟩ : ∃ g, A = some ⟨g, 0, none⟩ ∧ B ≤ g := by
        rcases HA.out with ⟨_, h0, _⟩ | ⟨g, h1, h2, _⟩
        · omega
        · exact ⟨g, h1, h2⟩
      subst hg
      have hl := HL.out
      have hxj : xs[j]? = some (xs[j]'(by omega)) := List.getElem?_eq_getElem (by omega)
      obtain ⟨x, hxx⟩ : ∃ x, xs[j]'(by omega) = x := ⟨_, rfl⟩
      rw [hxx] at hxj
      have hxb := numB_bd (HX.out x (List.mem_of_getElem? hxj))
      have hm := mul_bd hxb.1 (by omega) htb.1 (by omega)
      have hcell := World.ownsRow.cellAt hown j (by omega)
      have hmx : (ints ((scaleRow p t xs).take j ++ xs.drop j))[j]? = some (.int .i64 x) := by
        unfold ints; rw [List.getElem?_map, mix_get _ _ _ (scaleRow_len p t xs) (by rw [scaleRow_len]; omega), hxj]; rfl
      rw [hmx] at hcell
      have hfr := World.ownsRow.frozenAt hown j
      have hst := World.ownsRow.stored hown j (.int .i64 (x * t % p))
      rw [ints_set, mix_set (scaleRow_len p t xs) (scaleRow_get hxj)] at hst
      have HO := Lib.hid hst.1
      have HK := Lib.hid (hkeep.trans ((setCell_keep wr ⟨g, j, none⟩ (.int .i64 (x * t % p))).mono (fun q _ hq => by rw [hq]; rfl)))
      clear hmx hst hown hkeep hl hxj hxx
      go_wp2_with (fail)
      go_roundw
      case rel => exact ⟨j + 1, by omega, by go_num, HO.out, HK.out⟩
      case measure => simp [intOf]; omega
    · obtain rfl : j = n := by omega
      have e : (scaleRow p t xs).take j ++ xs.drop j = scaleRow p t xs := by
        rw [List.take_of_length_le (by rw [scaleRow_len, HL.out]; omega), List.drop_of_length_le (by rw [HL.out]; omega)]; simp
      rw [e] at hown
      have HO := Lib.hid hown
      clear e hown
      go_wp2_with (fail)
      go_end0
      exact ⟨rfl, HO.out, hkeep⟩
theorem IA.keepb {w w' : World} {A : Option Addr} {n b o : Nat} {xs : List Int} {S : Nat → Prop} (h : IA w A n b o xs) (k : Keep S w w') (hs : 0 < n → ¬ S b) : IA w' A n b o xs :=
  ⟨h.len, h.adr, h.big, fun i hi => let ⟨x, h1, h2⟩ := h.cell i hi; ⟨x, h1, k.cell h2 (hs (by omega))⟩⟩
theorem subRow_get {p t : Int} {row taken : List Int} {k : Nat} {x y : Int} (hx : row[k]? = some x) (hy : taken[k]? = some y) : (subRow p t row taken)[k]? = some ((x - t * y) % p) := by simp [subRow, List.getElem?_zipWith, hx, hy]
theorem sub_mod (p x t y : Int) : (x + (p - t) % p * y) % p = (x - t * y) % p := by
  rw [Int.add_emod, Int.mul_emod, Int.emod_emod, ← Int.mul_emod, ← Int.add_emod]
  have e : x + (p - t) * y = (x - t * y) + p * y := by rw [Int.sub_mul]; omega
  rw [e, Int.add_mul_emod_self_left]
theorem negative_is {p a u : Int} (h : (p - a) % p = u) (w : World) (hp : 2 ≤ p) (hp' : p ≤ 13) (ha : 0 ≤ a) (ha' : a < p) :
    Calls Try.prog 80 #[.int .i64 p, .int .i64 a] w fun e w' => e = .returned (.int .i64 u) ∧ w = w' := by subst h; exact negative_any p a w hp hp' ha ha'
set_option maxHeartbeats 400000 in
theorem takeRow_any (p t : Int) (B : Nat) (A : Option Addr) (n c : Nat) (xs : List Int) (A' : Option Addr) (c' b' o' : Nat) (ys : List Int) (w : World) (h : OI w B A n c xs) (h' : IA w A' n b' o' ys) (hne : ∀ g, (Value.slice A n c).ownBlock = some g → b' ≠ g)
    (ht : numB p t = true) (hx : ∀ x ∈ xs, numB p x = true) (hy : ∀ y ∈ ys, numB p y = true) (hn : n ≤ 1000) :
    Calls Try.prog 82 #[.int .i64 p, .slice A n c, .slice A' n c', .int .i64 t] w (RowPost B n c A (subRow p t xs ys) w) := by
  have htb := numB_bd ht
  have hlen := h.len
  have hadr := h.adr
  have hsl : (subRow p t xs ys).length = xs.length := subRow_len _ _ _ _ (by rw [hlen, h'.len])
  have hneg0 : 0 ≤ (p - t) % p := Int.emod_nonneg _ (by omega)
  have hneg1 : (p - t) % p < p := Int.emod_lt_of_pos _ (by omega)
  obtain ⟨u, hu⟩ : ∃ u, (p - t) % p = u := ⟨_, rfl⟩
  rw [hu] at hneg0 hneg1
  have HU := Lib.hid hu
  clear hu
  have H := Lib.hid h
  have H' := Lib.hid h'
  have HX := Lib.hid hx
  have HY := Lib.hid hy
  have HL := Lib.hid hlen
  have HA := Lib.hid hadr
  have HNE := Lib.hid hne
  have HSL := Lib.hid hsl
  clear h hlen hadr hx ht h' hy hne hsl
  go_enter Try.func82, Try.ntmps82
  go_wp2_with (fail)
  go_loopw [11] (fun i wr => ∃ j : Nat, j ≤ n ∧ i = .int .i64 j ∧ OI wr B A n c ((subRow p t xs ys).take j ++ xs.drop j) ∧ Keep (fun g => (Value.slice A n c).ownBlock = some g) w wr) (fun i _ => n - (intOf i).toNat)
  case atStart => exact ⟨0, by omega, rfl, by simpa using H.out, Keep.refl _ _⟩
  case round =>
    obtain ⟨j, hj, rfl, hown, hkeep⟩ := hrel
    by_cases hlt : j < n
    · obtain ⟨g, hg, hBg⟩ : ∃ g, A = some ⟨g, 0, none⟩ ∧ B ≤ g := by
        rcases HA.out with ⟨_, h0, _⟩ | ⟨g, h1, h2, _⟩
        · omega
        · exact ⟨g, h1, h2⟩
      subst hg
      have hl := HL.out
      have hxj : xs[j]? = some (xs[j]'(by omega)) := List.getElem?_eq_getElem (by omega)
      obtain ⟨x, hxx⟩ : ∃ x, xs[j]'(by omega) = x := ⟨_, rfl⟩
      rw [hxx] at hxj
      have hbg : b' ≠ g := HNE.out g rfl
      obtain ⟨y, hy, hyc⟩ := (H'.out.keepb hkeep (fun _ hs => by simp [Value.ownBlock] at hs; omega)).cell j hlt
      obtain rfl := H'.out.adr (by omega)
      have hxb := numB_bd (HX.out x (List.mem_of_getElem? hxj))
      have hyb := numB_bd (HY.out y (List.mem_of_getElem? hy))
      have hm := mul_bd hneg0 (by omega) hyb.1 (by omega)
      have hcell := World.ownsRow.cellAt hown j (by omega)
      have hmx : (ints ((subRow p t xs ys).take j ++ xs.drop j))[j]? = some (.int .i64 x) := by
        unfold ints; rw [List.getElem?_map, mix_get _ _ _ HSL.out (by rw [HSL.out]; omega), hxj]; rfl
      rw [hmx] at hcell
      have hfr := World.ownsRow.frozenAt hown j
      have hst := World.ownsRow.stored hown j (.int .i64 ((x + u * y) % p))
      rw [show (x + u * y) % p = (x - t * y) % p by rw [← HU.out]; exact sub_mod p x t y, ints_set, mix_set HSL.out (subRow_get hxj hy), show (x - t * y) % p = (x + u * y) % p by rw [← HU.out]; exact (sub_mod p x t y).symm] at hst
      have HO := Lib.hid hst.1
      have HK := Lib.hid (hkeep.trans ((setCell_keep wr ⟨g, j, none⟩ (.int .i64 ((x + u * y) % p))).mono (fun q _ hq => by rw [hq]; rfl)))
      clear hmx hst hown hkeep hl hxj hxx hy
      go_wp2_with (fail)
      refine wp_quiet_tail 18 (by kernel_rfl) (by kernel_rfl) ?_
      simp only [List.take_succ_cons, List.take_zero, List.drop_succ_cons, List.drop_zero]
      repeat (go_big_quiet_step ((go_at_call 80; exact quiet_same (negative_is HU.out _ htb.2.2.1 htb.2.2.2 htb.1 htb.2.1))))
      refine wpQuiet_nil ?_
      intro _ hw'
      obtain ⟨nq, hw''⟩ := hw'
      subst hw''
      go_wp2_with (fail)
      go_roundw
      case rel => exact ⟨j + 1, by omega, by go_num, owns_keep HO.out (drewN_keep (S := fun _ => False) _ _) (fun _ _ h => h), HK.out.drewN _⟩
      case measure => simp [intOf]; omega
    · obtain rfl : j = n := by omega
      have e : (subRow p t xs ys).take j ++ xs.drop j = subRow p t xs ys := by
        rw [List.take_of_length_le (by rw [HSL.out, HL.out]; omega), List.drop_of_length_le (by rw [HL.out]; omega)]; simp
      rw [e] at hown
      have HO := Lib.hid hown
      clear e hown
      go_wp2_with (fail)
      go_end0
      exact ⟨rfl, HO.out, hkeep⟩
end Go.Proofs.Ytdecaokngedghaa
namespace Go.Proofs.Ytdecaokngedghaa
open Go.RowKit
/-- the rows of a slice of slices, all in blocks of their own from B on, below hi, the slice of slices itself in block g -/
structure OMF (w : World) (B hi g n c : Nat) (M : List (List Int)) (vs : List Value) : Prop where
  om : OM w B (some ⟨g, 0, none⟩) n c M vs
  gl : g < hi
  foot : Foot vs B hi
theorem OMF.cell {w : World} {B hi g n c : Nat} {M : List (List Int)} {vs : List Value} (h : OMF w B hi g n c M vs) {r : Nat} (hr : r < n) :
    ∃ (row : List Int) (A' : Option Addr) (c' : Nat), M[r]? = some row ∧ vs[r]? = some (Value.slice A' row.length c') ∧ w.cell? ⟨g, r, none⟩ = some (.slice A' row.length c') ∧ OI w B A' row.length c' row ∧ w.frozen? ⟨g, r, none⟩ = false := by
  have hrow : M[r]? = some (M[r]'(by rw [h.om.len]; exact hr)) := List.getElem?_eq_getElem (by rw [h.om.len]; exact hr)
  obtain ⟨A', c', h1, h2⟩ := h.om.row r _ hrow
  have hc := World.ownsRow.cellAt h.om.out r (by omega)
  rw [h1] at hc
  exact ⟨_, A', c', hrow, h1, hc, h2, World.ownsRow.frozenAt h.om.out r⟩
def swapV (vs : List Value) (i j : Nat) : List Value := (vs.set i (vs.getD j undef)).set j (vs.getD i undef)
theorem swap_get {α : Type} (d : α) (l : List α) (i j k : Nat) (hi : i < l.length) (hj : j < l.length) : ((l.set i (l.getD j d)).set j (l.getD i d))[k]? = if k = j then l[i]? else if k = i then l[j]? else l[k]? := by
  by_cases h1 : k = j
  · subst h1
    rw [if_pos rfl, List.getElem?_set_self (by simpa using hj), List.getD_eq_getElem?_getD, List.getElem?_eq_getElem hi]; rfl
  · rw [if_neg h1, List.getElem?_set_ne (fun e => h1 e.symm)]
    by_cases h2 : k = i
    · subst h2
      rw [if_pos rfl, List.getElem?_set_self hi, List.getD_eq_getElem?_getD, List.getElem?_eq_getElem hj]; rfl
    · rw [if_neg h2, List.getElem?_set_ne (fun e => h2 e.symm)]
theorem OMF.swap {w w' : World} {B hi g n c : Nat} {M : List (List Int)} {vs : List Value} (h : OMF w B hi g n c M vs) {i j : Nat} (hin : i < n) (hjn : j < n)
    (ho : w'.ownsRow B 23 1 (.slice (some ⟨g, 0, none⟩) n c) n (swapV vs i j)) (hk : Keep (· = g) w w') : OMF w' B hi g n c (swapM M i j) (swapV vs i j) := by
  have hvl := h.om.vlen
  have hM := h.om.len
  have hsv := fun k => swap_get undef vs i j k (by omega) (by omega)
  have hsm := fun k => swap_get [] M i j k (by omega) (by omega)
  have keepI : ∀ (A2 : Option Addr) (m c2 : Nat) (xs : List Int), OI w B A2 m c2 xs → OI w' B A2 m c2 xs := fun A2 m c2 xs hx => owns_keep hx hk (fun q hq hs => block_elem hx h.om.out (by decide) q hq (by simp [Value.ownBlock, hs]))
  have hrow : ∀ (r : Nat) (row : List Int), (swapM M i j)[r]? = some row → ∃ q, (swapM M i j)[r]? = M[q]? ∧ (swapV vs i j)[r]? = vs[q]? ∧ q = (if r = j then i else if r = i then j else r) := by
    intro r row _
    refine ⟨if r = j then i else if r = i then j else r, ?_, ?_, rfl⟩
    · unfold swapM; rw [hsm]; split
      · rfl
      · split <;> rfl
    · unfold swapV; rw [hsv]; split
      · rfl
      · split <;> rfl
  refine ⟨⟨ho, by rw [swapM_len]; exact hM, fun r row hr => ?_, fun r s u u' hrs hu hu' => ?_⟩, h.gl, fun r u q hu hq => ?_⟩
  · obtain ⟨q, e1, e2, _⟩ := hrow r row hr
    rw [e1] at hr
    obtain ⟨A', c', h1, h2⟩ := h.om.row q row hr
    exact ⟨A', c', by rw [e2]; exact h1, keepI _ _ _ _ h2⟩
  · unfold swapV at hu hu'
    rw [hsv] at hu hu'
    have ap : ∀ (a b : Nat) (u u' : Value), a ≠ b → vs[a]? = some u → vs[b]? = some u' → Apart u u' := by
      intro a b u u' hab hu hu'
      rcases Nat.lt_or_gt_of_ne hab with hlt | hlt
      · exact h.om.apart a b u u' hlt hu hu'
      · rcases h.om.apart b a u' u hlt hu' hu with h1 | h1
        · rcases hq : u.ownBlock with _ | q
          · exact .inl hq
          · exact .inr (by rw [hq, h1]; simp)
        · exact .inr (fun e => h1 e.symm)
    split at hu <;> split at hu' <;> (try (split at hu)) <;> (try (split at hu'))
    all_goals first | omega | exact ap _ _ _ _ (by omega) hu hu'
  · unfold swapV at hu
    rw [hsv] at hu
    split at hu
    · exact h.foot _ _ _ hu hq
    · split at hu <;> exact h.foot _ _ _ hu hq
theorem OMF.keep {w w' : World} {B hi g n c : Nat} {M : List (List Int)} {vs : List Value} {S : Nat → Prop} (h : OMF w B hi g n c M vs) (k : Keep S w w') (hs : ∀ q, q < hi → ¬ S q) : OMF w' B hi g n c M vs :=
  ⟨⟨owns_keep h.om.out k (fun q hq => by simp [Value.ownBlock] at hq; subst hq; exact hs _ h.gl), h.om.len, fun r row hr => by
    obtain ⟨A', c', h1, h2⟩ := h.om.row r row hr
    exact ⟨A', c', h1, owns_keep h2 k (fun q hq => hs q (h.foot r _ q h1 hq).2)⟩, h.om.apart⟩, h.gl, h.foot⟩
theorem OMF.drewN {w : World} {B hi g n c : Nat} {M : List (List Int)} {vs : List Value} (h : OMF w B hi g n c M vs) (m : Nat) : OMF (w.drewN m) B hi g n c M vs := h.keep (drewN_keep (S := fun _ => False) w m) (fun _ _ h => h)
theorem OMF.setRow {w w' : World} {B hi g n c : Nat} {M : List (List Int)} {vs : List Value} (h : OMF w B hi g n c M vs) {r : Nat} {row new : List Int} {A' : Option Addr} {c' : Nat} (hr : M[r]? = some row) (hv : vs[r]? = some (Value.slice A' row.length c'))
    (hl : new.length = row.length) (hI : OI w' B A' row.length c' new) (k : Keep (fun q => (Value.slice A' row.length c').ownBlock = some q) w w') : OMF w' B hi g n c (M.set r new) vs :=
  ⟨h.om.setRow hr hv hl hI k, h.gl, h.foot⟩
def headI (hs : List Nat) : List Int := hs.map fun (x : Nat) => (x : Int)
def RedPost (p : Int) (B g n c cols : Nat) (M : List (List Int)) (w : World) (e : Ending) (w' : World) : Prop :=
  ∃ (A' : Option Addr) (c' : Nat) (vs' : List Value), e = .returned (.slice A' (elim p M cols).2.length c') ∧ OM w' B (some ⟨g, 0, none⟩) n c (elim p M cols).1 vs' ∧ OI w' w.heap.size A' (elim p M cols).2.length c' (headI (elim p M cols).2) ∧ Below B w w'
theorem elim_stay {p : Int} {M : List (List Int)} {j : Nat} (h : firstW (elim p M j).1 j ((elim p M j).1.length - (elim p M j).2.length) (elim p M j).2.length = none) : elim p M (j + 1) = elim p M j := by
  show stepE p (elim p M j).1 (elim p M j).2 j = _
  unfold stepE; rw [h]
theorem elim_go {p : Int} {M : List (List Int)} {j r : Nat} (h : firstW (elim p M j).1 j ((elim p M j).1.length - (elim p M j).2.length) (elim p M j).2.length = some r) :
    elim p M (j + 1) = (clearM p (chooseM p (elim p M j).1 r (elim p M j).2.length j) (elim p M j).2.length j, (elim p M j).2 ++ [j]) := by
  show stepE p (elim p M j).1 (elim p M j).2 j = _
  unfold stepE; rw [h]
theorem OMF.swapped {w : World} {B hi g n c : Nat} {M : List (List Int)} {vs : List Value} (h : OMF w B hi g n c M vs) {r t : Nat} (hr : r < n) (ht : t < n) {sR sT : Value} (hvR : vs[r]? = some sR) (hvT : vs[t]? = some sT) :
    OMF (((w.setCell ⟨g, r, none⟩ sT).setCell ⟨g, t, none⟩ sR).drew) B hi g n c (swapM M r t) (swapV vs r t) ∧ Keep (· = g) w (((w.setCell ⟨g, r, none⟩ sT).setCell ⟨g, t, none⟩ sR).drew) := by
  obtain ⟨h1, h2⟩ := World.ownsRow.stored h.om.out r sT
  obtain ⟨h3, h4⟩ := World.ownsRow.stored h1 t sR
  have e : (vs.set r sT).set t sR = swapV vs r t := by
    unfold swapV
    rw [List.getD_eq_getElem?_getD, List.getD_eq_getElem?_getD, hvR, hvT]; rfl
  rw [e] at h3
  have hk : Keep (· = g) w (((w.setCell ⟨g, r, none⟩ sT).setCell ⟨g, t, none⟩ sR).drew) := Keep.drew (((setCell_keep w ⟨g, r, none⟩ sT).trans (setCell_keep _ ⟨g, t, none⟩ sR)))
  exact ⟨h.swap hr ht h3 hk, hk⟩
theorem swapM_at {M : List (List Int)} {r t : Nat} (hr : r < M.length) (ht : t < M.length) : (swapM M r t)[t]? = M[r]? := by
  unfold swapM; rw [swap_get [] M r t t hr ht, if_pos rfl]
theorem getD_of {M : List (List Int)} {i : Nat} {row : List Int} (h : M[i]? = some row) : M.getD i [] = row := by rw [List.getD_eq_getElem?_getD, h]; rfl
theorem getD_congr {l l' : List (List Int)} {i j : Nat} (h : l[i]? = l'[j]?) : l.getD i [] = l'.getD j [] := by simp [List.getD_eq_getElem?_getD, h]
theorem clearM_top (p : Int) (M : List (List Int)) (top col : Nat) (h : top < M.length) : (clearM p M top col)[top]? = M[top]? := by
  rw [clearM_get _ _ _ _ _ h]; unfold clearRow; rw [if_pos rfl, List.getD_eq_getElem?_getD, List.getElem?_eq_getElem h]; rfl
theorem mix_top {p : Int} {M : List (List Int)} {top col k : Nat} (h : top < M.length) (hk : k ≤ M.length) : ((clearM p M top col).take k ++ M.drop k)[top]? = M[top]? := by
  by_cases hlt : top < k
  · rw [List.getElem?_append_left (by simp [clearM_len]; omega), List.getElem?_take, if_pos hlt, clearM_top _ _ _ _ h]
  · rw [List.getElem?_append_right (by simp [clearM_len]; omega), List.getElem?_drop]
    congr 1
    simp [clearM_len]; omega
set_option maxHeartbeats 800000 in
theorem reduceRows_any (p : Int) (B g n c l cols : Nat) (M : List (List Int)) (vs : List Value) (w : World) (h : OM w B (some ⟨g, 0, none⟩) n c M vs) (hp : primeB p = true) (hv : VM p l M) (hl : cols ≤ l) (hl9 : l ≤ 9) (hn1 : 1 ≤ n) (hn8 : n ≤ 24) :
    Calls Try.prog 62 #[.int .i64 p, .slice (some ⟨g, 0, none⟩) n c, .int .i64 (cols : Int)] w (RedPost p B g n c cols M w) := by
  have hpb := prime_ge hp
  have hg : B ≤ g ∧ g < w.heap.size := h.out.lt g rfl
  have hML := h.len
  have hinv := fun j => elim_inv hp hv j
  have HINV := Lib.hid hinv
  have HP := Lib.hid hp
  have HF := Lib.hid (OMF.mk h hg.2 h.foot)
  have HML := Lib.hid hML
  clear h hinv hp hv hML
  go_enter Try.func62, Try.ntmps62
  go_wp2_with (fail)
  go_loopw [7, 14] (fun v i wr => ∃ (j : Nat) (A' : Option Addr) (c' : Nat) (vs' : List Value), j ≤ cols ∧ i = .int .i64 j ∧ v = .slice A' (elim p M j).2.length c' ∧ OMF wr B w.heap.size g n c (elim p M j).1 vs' ∧ OI wr w.heap.size A' (elim p M j).2.length c' (headI (elim p M j).2) ∧ Below B w wr) (fun _ i _ => cols - (intOf i).toNat)
  case atStart => exact ⟨0, _, _, _, by omega, rfl, rfl, HF.out, World.ownsRow_nil _ _ _ _, Below.refl _ _⟩
  case round =>
    obtain ⟨j, A', c', vs', hj, rfl, rfl, hom, hch, hbel⟩ := hrel
    obtain ⟨wo, rfl⟩ : ∃ wo : World, wo = wr := ⟨_, rfl⟩
    obtain ⟨hi1, hi2, hi3, hi4⟩ := HINV.out j
    obtain ⟨N, hN⟩ : ∃ N, (elim p M j).1 = N := ⟨_, rfl⟩
    obtain ⟨hs, hHS⟩ : ∃ hs, (elim p M j).2 = hs := ⟨_, rfl⟩
    obtain ⟨top, htop⟩ : ∃ top, hs.length = top := ⟨_, rfl⟩
    rw [hN, HML.out] at hi1
    rw [hN] at hi2 hom
    rw [hHS, htop] at hch hi3
    rw [hHS] at hi4
    rw [HML.out] at hi3
    simp only [hHS, htop]
    by_cases hlt : j < cols
    · obtain ⟨br, hRA⟩ := hom.om.ra
      have HRA := Lib.hid hRA
      have HO := Lib.hid hom
      have HCH := Lib.hid hch
      have HB := Lib.hid hbel
      have HV := Lib.hid hi2
      have HN := Lib.hid hN
      have HHS := Lib.hid hHS
      have HT := Lib.hid htop
      have HNL := Lib.hid hi1
      clear hRA hom hch hbel hi2 hN hHS htop hi1
      go_wp2_with (fail)
      refine (firstRowWith_any _ n c br 0 N j top _ HRA.out (fun row hr => by rw [(HV.out row hr).1]; omega) hi3 (by omega)).mono ?_
      rintro e w' ⟨x, rfl, hx, rfl⟩
      rcases hx with ⟨rfl, hnone⟩ | ⟨r, rfl, hrn, hsome⟩
      · have HS := Lib.hid (elim_stay (p := p) (M := M) (j := j) (by rw [HN.out, HHS.out, HT.out]; exact hnone))
        clear hnone
        go_wp2_with (fail)
        go_roundw
        case rel => exact ⟨j + 1, A', c', vs', by omega, by go_num, by rw [HS.out, HHS.out, HT.out], by rw [HS.out, HN.out]; exact HO.out, by rw [HS.out, HHS.out, HT.out]; exact HCH.out, HB.out⟩
        case measure => simp [intOf]; omega
      · have HG := Lib.hid (elim_go (p := p) (M := M) (j := j) (r := r) (by rw [HN.out, HHS.out, HT.out]; exact hsome))
        obtain ⟨hf1, hf2, hf3, _⟩ := firstW_some hsome
        have hNL := HNL.out
        rw [HN.out, HHS.out, HT.out] at HG
        have htn : top < n := by omega
        rw [hNL] at hrn
        obtain ⟨rowR, AR, cR, hmR, hvR, hcR, hIR, hfR⟩ := HO.out.cell hrn
        obtain ⟨rowT, AT, cT, hmT, hvT, hcT, hIT, hfT⟩ := HO.out.cell htn
        have HG2 := Lib.hid HG
        have HF3 := Lib.hid hf3
        have HMR := Lib.hid hmR
        have HMT := Lib.hid hmT
        have HVR := Lib.hid hvR
        have HVT := Lib.hid hvT
        have HIR := Lib.hid hIR
        have HIT := Lib.hid hIT
        clear HG hf3 hmR hmT hvR hvT hIR hIT hsome hNL
        obtain ⟨v2, hv2⟩ : ∃ v2, (wo.setCell ⟨g, r, none⟩ (.slice AT rowT.length cT)).cell? ⟨g, top, none⟩ = some v2 := by
          by_cases e : r = top
          · subst e; exact ⟨_, World.cell?_setCell_same _ _ _ hcR⟩
          · exact ⟨_, (World.cell?_setCell_other _ _ _ _ (fun h => e (congrArg Addr.off h))).trans hcT⟩
        go_wp2_with (fail)
        go_region
        go_wp2_with (fail)
        obtain ⟨hO2, hK2⟩ := HO.out.swapped hrn htn HVR.out HVT.out
        obtain ⟨w2, hw2⟩ : ∃ w2, w2 = (((wo.setCell ⟨g, r, none⟩ (.slice AT rowT.length cT)).setCell ⟨g, top, none⟩ (.slice AR rowR.length cR)).drew) := ⟨_, rfl⟩
        rw [← hw2] at hO2 hK2 ⊢
        have HK2 := Lib.hid (hK2.mono (T := fun q => B ≤ q ∧ q < w.heap.size) (fun q _ hq => by rw [hq]; exact hg))
        clear hw2 hv2 hK2 hcR hcT hfR hfT
        obtain ⟨row2, A2, c2, hm2, hv2, hc2, hI2, hf2⟩ := hO2.cell htn
        have hVM2 := HV.out.swap (i := r) (j := top) (by rw [HNL.out]; exact hrn) (by rw [HNL.out]; exact htn)
        obtain ⟨hrl2, hrv2⟩ := hVM2 row2 (List.mem_of_getElem? hm2)
        rw [hrl2] at hv2 hc2 hI2
        obtain ⟨b2, hIA2⟩ := hI2.ia
        obtain ⟨x, hx, hxc⟩ := hIA2.cell j (by omega)
        obtain rfl := hIA2.adr (by omega)
        rw [Nat.zero_add] at hxc
        have hxn := hrv2 x (List.mem_of_getElem? hx)
        have hat2 : at2 (swapM N r top) top j = x := at2_of hm2 hx
        have hx0 : x ≠ 0 := by
          rw [← hat2]
          have e : (swapM N r top)[top]? = N[r]? := swapM_at (by rw [HNL.out]; exact hrn) (by rw [HNL.out]; exact htn)
          have e2 : at2 (swapM N r top) top j = at2 N r j := by unfold at2; rw [getD_congr e]
          rw [e2]; exact HF3.out
        obtain ⟨u, hu⟩ : ∃ u, invM p x = u := ⟨_, rfl⟩
        have hnb : numBack p x = u := by unfold numBack; rw [if_pos ⟨hxn, hx0⟩, hu]
        have hun : numB p u = true := by rw [← hu]; exact numB_mk HP.out (inv_bd HP.out).1 (inv_bd HP.out).2
        have hcalc := fun m => quiet_same (n := m) (w := w2) (implNumBack p x (w2.drewN m))
        rw [hnb] at hcalc
        have HCA := Lib.hid hcalc
        have HM3 := Lib.hid (show (swapM N r top).set top (scaleRow p u row2) = chooseM p N r top j by unfold chooseM; rw [hat2, hu, getD_of hm2])
        have HO2 := Lib.hid hO2
        have HM2 := Lib.hid hm2
        have HV2 := Lib.hid hv2
        have HI2 := Lib.hid hI2
        have HRV2 := Lib.hid hrv2
        have HRL2 := Lib.hid hrl2
        have HUN := Lib.hid hun
        clear hcalc hO2 hm2 hv2 hI2 hrv2 hrl2 hIA2 hx hxn hat2 hx0 hu hnb hun hVM2
        refine wp_quiet_tail 14 (by kernel_rfl) (by kernel_rfl) ?_
        simp only [List.take_succ_cons, List.take_zero, List.drop_succ_cons, List.drop_zero]
        repeat (go_big_quiet_step ((go_at_call 81; exact HCA.out _)))
        refine wpQuiet_nil ?_
        intro _ hw'
        obtain ⟨nq, hw''⟩ := hw'
        subst hw''
        go_wp2_with (fail)
        refine (multiplyRow_any p u B _ l c2 row2 _ (owns_keep HI2.out (drewN_keep (S := fun _ => False) _ _) (fun _ _ h => h)) HUN.out HRV2.out (by omega)).mono ?_
        rintro e w3 ⟨rfl, hI3, hK3⟩
        have hO3 := (HO2.out.drewN nq).setRow HM2.out (by rw [HRL2.out]; exact HV2.out) (scaleRow_len p u row2) (by rw [HRL2.out]; exact hI3) (by rw [HRL2.out]; exact hK3)
        rw [HM3.out] at hO3
        have HO3 := Lib.hid hO3
        have HK3 := Lib.hid ((HK2.out.drewN nq).trans (hK3.mono (T := fun q => B ≤ q ∧ q < w.heap.size) (fun q _ hq => HO2.out.foot top _ q HV2.out hq)))
        obtain ⟨M3, hM3⟩ : ∃ M3, chooseM p N r top j = M3 := ⟨_, rfl⟩
        have HL3 := Lib.hid (show M3.length = n by rw [← hM3, chooseM_len, HNL.out])
        have HV3 := Lib.hid (show VM p l M3 by rw [← hM3]; exact HV.out.choose HP.out (by rw [HNL.out]; exact hrn) (by rw [HNL.out]; exact htn))
        rw [hM3] at HO3 HG2
        clear hO3 hI3 hK3 hM3 HCA HM3 HO2 HM2 HV2 HI2 HRV2 HRL2 HUN HK2 hc2 hxc hf2
        go_wp2_with (fail)
        go_loopw [56] (fun i wi => ∃ k : Nat, k ≤ n ∧ i = .int .i64 k ∧ OMF wi B w.heap.size g n c ((clearM p M3 top j).take k ++ M3.drop k) (swapV vs' r top) ∧ Keep (fun q => B ≤ q ∧ q < w.heap.size) wo wi) (fun i _ => n - (intOf i).toNat)
        case atStart => exact ⟨0, by omega, rfl, by simpa using HO3.out, HK3.out⟩
        case round =>
          obtain ⟨k, hk, rfl, hom, hkp⟩ := hrel
          by_cases hlk : k < n
          · have hL3 := HL3.out
            obtain ⟨row, Ai, ci, hmi, hvi, hci, hIi, hfi⟩ := hom.cell hlk
            obtain ⟨rowt, At, ct, hmt, hvt, hct, hIt, hft⟩ := hom.cell htn
            rw [mix_get _ _ _ (clearM_len p M3 top j) (by rw [clearM_len]; omega)] at hmi
            rw [mix_top (by omega) (by omega)] at hmt
            obtain ⟨hrl, hrv⟩ := HV3.out row (List.mem_of_getElem? hmi)
            obtain ⟨hrlt, hrvt⟩ := HV3.out rowt (List.mem_of_getElem? hmt)
            rw [hrl] at hvi hci hIi
            rw [hrlt] at hvt hct hIt
            by_cases hkt : k = top
            · have hq : ((k : Int) != (top : Int)) = false := eqInt hkt
              have HS := Lib.hid (show ((clearM p M3 top j).take k ++ M3.drop k) = ((clearM p M3 top j).take (k + 1) ++ M3.drop (k + 1)) by
                have h1 := set_step (clearM p M3 top j) M3 k row (clearM_len _ _ _ _) (by rw [hkt, clearM_top _ _ _ _ (by omega), ← hkt]; exact hmi)
                rw [← h1]
                refine (List.ext_getElem? fun q => ?_)
                by_cases e : q = k
                · subst e; rw [List.getElem?_set_self (by simp [clearM_len]; omega), mix_get _ _ _ (clearM_len p M3 top j) (by rw [clearM_len]; omega)]; exact hmi
                · rw [List.getElem?_set_ne (fun e' => e e'.symm)])
              have HO := Lib.hid hom
              clear hmi hvi hIi hmt hvt hIt hrl hrv hrlt hrvt hkt hL3 hom
              go_wp2_with (fail)
              go_roundw
              case rel => exact ⟨k + 1, by omega, by go_num, by rw [← HS.out]; exact HO.out, hkp⟩
              case measure => simp [intOf]; omega
            · have hq : ((k : Int) != (top : Int)) = true := neInt hkt
              obtain ⟨bi, hIAi⟩ := hIi.ia
              obtain ⟨bt, hIAt⟩ := hIt.ia
              obtain ⟨x, hx, hxc⟩ := hIAi.cell j (by omega)
              have hxn := hrv x (List.mem_of_getElem? hx)
              have hat : at2 M3 k j = x := at2_of hmi hx
              have hadr := hIAi.adr (by omega)
              have hadt := hIAt.adr (by omega)
              subst hadr hadt
              rw [Nat.zero_add] at hxc
              have hbne : bt ≠ bi := by
                have ap : Apart (Value.slice (some ⟨bt, 0, none⟩) l ct) (Value.slice (some ⟨bi, 0, none⟩) l ci) := by
                  rcases Nat.lt_or_gt_of_ne hkt with hh | hh
                  · rcases hom.om.apart k top _ _ hh hvi hvt with h1 | h1
                    · simp [Value.ownBlock] at h1
                    · exact .inr (fun e => h1 e.symm)
                  · exact hom.om.apart top k _ _ hh hvt hvi
                rcases ap with h1 | h1
                · simp [Value.ownBlock] at h1
                · intro e; exact h1 (by simp [Value.ownBlock, e])
              have HSR := Lib.hid (show (clearM p M3 top j)[k]? = some (subRow p x row rowt) by
                rw [clearM_get _ _ _ _ _ (by omega)]; unfold clearRow; rw [if_neg hkt, hat, getD_of hmi, getD_of hmt])
              have HO := Lib.hid hom
              have HMI := Lib.hid hmi
              have HVI := Lib.hid hvi
              have HRL := Lib.hid hrl
              have HII := Lib.hid hIi
              have HIT := Lib.hid hIAt
              have HXN := Lib.hid hxn
              have HRV := Lib.hid hrv
              have HRVT := Lib.hid hrvt
              have HRLT := Lib.hid hrlt
              clear hom hmi hmt hvi hvt hrl hrv hrlt hrvt hIi hIt hIAi hIAt hx hxn hat hL3 hkt
              go_wp2_with (fail)
              refine wp_quiet_tail 10 (by kernel_rfl) (by kernel_rfl) ?_
              simp only [List.take_succ_cons, List.take_zero, List.drop_succ_cons, List.drop_zero]
              repeat (go_big_quiet_step (fail))
              refine wpQuiet_nil ?_
              intro _ hw'
              obtain ⟨nz, hw''⟩ := hw'
              subst hw''
              go_wp2_with (fail)
              refine (takeRow_any p x B _ l ci row _ ct bt 0 rowt _ (owns_keep HII.out (drewN_keep (S := fun _ => False) _ _) (fun _ _ h => h)) (HIT.out.drewN ⟨nz, rfl⟩) (fun q hq => by simp [Value.ownBlock] at hq; omega) HXN.out HRV.out HRVT.out (by omega)).mono ?_
              rintro e w5 ⟨rfl, hI5, hK5⟩
              have hO5 := (HO.out.drewN nz).setRow (by rw [mix_get _ _ _ (clearM_len p M3 top j) (by rw [clearM_len, HL3.out]; omega)]; exact HMI.out) (by rw [HRL.out]; exact HVI.out) (subRow_len p x row rowt (by rw [HRL.out, HRLT.out])) (by rw [HRL.out]; exact hI5) (by rw [HRL.out]; exact hK5)
              rw [set_step _ _ k _ (clearM_len _ _ _ _) HSR.out] at hO5
              have HO5 := Lib.hid hO5
              have HK5 := Lib.hid ((hkp.drewN nz).trans (hK5.mono (T := fun q => B ≤ q ∧ q < w.heap.size) (fun q _ hq => HO.out.foot k _ q HVI.out hq)))
              clear hO5 hI5 hK5 hkp
              go_wp2_with (fail)
              go_roundw
              case rel => exact ⟨k + 1, by omega, by go_num, HO5.out, HK5.out⟩
              case measure => simp [intOf]; omega
          · obtain rfl : k = n := by omega
            have e : (clearM p M3 top j).take k ++ M3.drop k = clearM p M3 top j := by
              rw [List.take_of_length_le (by rw [clearM_len, HL3.out]; omega), List.drop_of_length_le (by rw [HL3.out]; omega)]; simp
            rw [e] at hom
            have HO := Lib.hid hom
            have HKP := Lib.hid hkp
            have HCW := Lib.hid (show OI wr w.heap.size A' top c' (headI hs) from owns_keep HCH.out hkp (fun q hq hs => by have := (HCH.out.lt q hq).1; omega))
            have HBW := Lib.hid (HB.out.trans (hkp.below (B := B) (by have := (HO.out.om.out.lt g rfl).1; have := HB.out.size; omega) (fun q hq => hq.1)))
            have hsw := HBW.out.size
            clear e hom hkp
            go_wp2_with (at_builtin; refine wpList_app_int rfl (.tmp 76) (.tmp 78) rfl w.heap.size A' top c' _ rfl (HCW.out.alloc _) (j : Int) _ _ rfl ?_ (by omega) ?_ ?_)
            · simp
            · simp; omega
            · intro A6 c6 w6 hI6 hK6
              have HI6 := Lib.hid hI6
              have hst : ∀ q, (Value.slice A' top c').ownBlock = some q → w.heap.size ≤ q := fun q hq => ((HCW.out).lt q hq).1
              have HO6 := Lib.hid ((HO.out.keep ((Keep.refl (fun _ => False) _).alloc (.cells #[.int .i64 (j : Int)] 3)) (fun _ _ h => h)).keep hK6 (fun q hq hs => by have := hst q hs; omega))
              have HB6 := Lib.hid ((HBW.out.alloc (by omega) (.cells #[.int .i64 (j : Int)] 3)).trans (hK6.below (B := B) (by simp; omega) (fun q hq => by have := hst q hq; omega)))
              clear hI6 hK6 hst
              go_wp2_with (fail)
              go_roundw
              case rel => exact ⟨j + 1, A6, c6, swapV vs' r top, by omega, by go_num, by rw [HG2.out]; simp [HT.out], by rw [HG2.out]; exact HO6.out, by rw [HG2.out]; simpa [headI, HT.out] using HI6.out, HB6.out⟩
              case measure => simp [intOf]; omega
    · obtain rfl : j = cols := by omega
      have HO := Lib.hid hom
      have HCH := Lib.hid hch
      have HN := Lib.hid hN
      have HHS := Lib.hid hHS
      have HT := Lib.hid htop
      clear hom hch hN hHS htop
      go_wp2_with (fail)
      go_ret
      exact ⟨A', c', vs', by rw [HHS.out, HT.out]; rfl, by rw [HN.out]; exact HO.out.om, by rw [HHS.out, HT.out]; exact HCH.out, hbel⟩
end Go.Proofs.Ytdecaokngedghaa
namespace Go.Proofs.Ytdecaokngedghaa
open Go.RowKit
theorem copyRows_any (A : Option Addr) (n c b o l : Nat) (M : List (List Int)) (w : World) (h : RA w A n b o M) (hn : n ≤ 8) (hl1 : 1 ≤ l) (hl8 : l ≤ 9) (hr : ∀ row ∈ M, row.length = l) :
    Calls Try.prog 78 #[.slice A n c] w (MadeM n M w) := by
  have hlen := h.len
  have HL := Lib.hid hlen
  have H := Lib.hid h
  have HR := Lib.hid hr
  have hmk := run_make_row' (P := Try.prog) 74 23 (.slice none 0 0) 24 Try.underlying74 infoInts rfl .i64 .i64 n (by omega) (by omega)
  have hmk2 := run_make_row' (P := Try.prog) 23 3 (.int .i64 0) 8 Try.underlying23 infoInt rfl .i64 .i64 l (by omega) (by omega)
  clear h hlen hr
  go_enter Try.func78, Try.ntmps78
  go_wp2_with (fail)
  go_loopw [11] (fun i wr => ∃ (k : Nat) (vs : List Value), k ≤ n ∧ i = .int .i64 k ∧ Half wr w.heap.size n k M vs ∧ Below w.heap.size w wr) (fun i _ => n - (intOf i).toNat)
  case atStart => exact ⟨0, [], by omega, rfl, Half.start w n M (by omega), (Below.refl _ _).alloc (Nat.le_refl _) _⟩
  case round =>
    obtain ⟨k, vs, hk, rfl, hown, hbel⟩ := hrel
    obtain ⟨wo, rfl⟩ : ∃ wo : World, wo = wr := ⟨_, rfl⟩
    by_cases hlt : k < n
    · have hs0 := hbel.size
      have hB0 := (hown.out.lt w.heap.size rfl).2
      obtain rfl := H.out.adr (by omega)
      obtain ⟨row, A1, c1, b1, o1, hrw, hcw, hI⟩ := H.out.row k hlt
      have hc := (keep_of_below hbel).cell hcw (fun h => h)
      have hrl := HR.out row (List.mem_of_getElem? hrw)
      rw [hrl] at hc hI
      obtain rfl := hI.adr (by omega)
      have hmade := made_ints wo l (by omega)
      have hML := HL.out
      have hzl : (List.replicate l (0 : Int)).length = l := by simp
      have hst := (hown.congr (M' := M.set k (List.replicate l 0)) (fun r hr => List.getElem?_set_ne (by omega))).step hlt (by simp [hML]) ((Below.refl wo.heap.size wo).alloc (Nat.le_refl _) (.cells (madeCells #[.int .i64 0] l) 3))
        (row := List.replicate l 0) (A := some ⟨wo.heap.size, 0, none⟩) (c := l) (List.getElem?_set_self (by omega)) (by rw [hzl]; exact hmade)
      rw [hzl] at hst
      have heq := World.setCell_alloc_past (w := wo) (.cells (madeCells #[.int .i64 0] l) 3) w.heap.size k (.slice (some ⟨wo.heap.size, 0, none⟩) l l) hB0
      rw [heq] at hst
      have ho := World.ownsRow.alloc hown.out (.cells (madeCells #[.int .i64 0] l) 3)
      have hcell := World.ownsRow.cellAt ho k (by omega)
      have hfr := World.ownsRow.frozenAt ho k
      obtain ⟨v0, hv0⟩ : ∃ v0, (wo.alloc (.cells (madeCells #[.int .i64 0] l) 3)).cell? ⟨w.heap.size, k, none⟩ = some v0 := by
        rw [hcell]; exact ⟨_, List.getElem?_eq_getElem (by have := hown.vlen; simp; omega)⟩
      obtain ⟨v1, hv1⟩ : ∃ v1, wo.cell? ⟨w.heap.size, k, none⟩ = some v1 := by
        rw [World.ownsRow.cellAt hown.out k (by omega)]; exact ⟨_, List.getElem?_eq_getElem (by have := hown.vlen; simp; omega)⟩
      have hout := World.cell?_setCell_same _ _ (.slice (some ⟨wo.heap.size, 0, none⟩) l l) hv1
      have HB := Lib.hid (show Below w.heap.size w ((wo.setCell ⟨w.heap.size, k, none⟩ (.slice (some ⟨wo.heap.size, 0, none⟩) l l)).alloc (.cells (madeCells #[.int .i64 0] l) 3)) from heq ▸ (hbel.alloc hs0 _).setCell (Nat.le_refl _) _)
      have hvl := hown.vlen
      have hvk : (vs ++ [Value.slice (some ⟨wo.heap.size, 0, none⟩) l l])[k]? = some (.slice (some ⟨wo.heap.size, 0, none⟩) l l) := by
        rw [List.getElem?_append_right (by omega)]; simp [hvl]
      have hMk : (M.set k (List.replicate l (0 : Int)))[k]? = some (List.replicate l 0) := List.getElem?_set_self (by omega)
      obtain ⟨A3, c3, hv3, hI3⟩ := hst.1.row k _ (by omega) hMk
      rw [hvk, hzl] at hv3
      simp only [Option.some.injEq, Value.slice.injEq, true_and] at hv3
      obtain ⟨rfl, rfl⟩ := hv3
      rw [hzl] at hI3
      have HST := Lib.hid hst.1
      have HVK := Lib.hid hvk
      have HMK := Lib.hid hMk
      have HI3 := Lib.hid hI3
      have HI := Lib.hid hI
      have HRW := Lib.hid hrw
      have HRL := Lib.hid hrl
      clear hcell ho hst heq hmade hown hbel hrw hcw hI hrl hzl hvk hMk hI3 hML
      go_wp2_with (with_reducible refine wpList_cpy rfl (.tmp 25) (.tmp 26) rfl (w.heap.size + 1) wo.heap.size l l (List.replicate l 0) rfl HI3.out c1 b1 o1 row rfl (HI.out.below HB.out) ?_)
      intro w5 v5 hI5 hK5
      have hset := HST.out.setRow (new := row) (by omega) HMK.out (by simpa using HVK.out) (by simp [HRL.out]) (by simpa using hI5) (hK5.mono (fun q _ hq => by rw [hq]; rfl))
      rw [List.set_set] at hset
      have HS := Lib.hid (hset.congr (M' := M) (fun r _ => by
        by_cases e : r = k
        · subst e; rw [List.getElem?_set_self (by rw [HL.out]; exact hlt)]; exact HRW.out
        · exact (List.getElem?_set_ne (fun e' => e e'.symm)).symm))
      have HB5 := Lib.hid (HB.out.trans (hK5.below (B := w.heap.size) HB.out.size (fun q hq => by rw [hq]; exact hs0)))
      clear hset hI5 hK5
      go_wp2_with (fail)
      go_roundw
      case rel => exact ⟨k + 1, _, by omega, by go_num, HS.out, HB5.out⟩
      case measure => simp [intOf]; omega
    · obtain rfl : k = n := by omega
      have HO := Lib.hid (hown.done HL.out)
      clear hown
      go_wp2_with (fail)
      go_ret
      exact ⟨_, _, _, rfl, HO.out, hbel⟩
end Go.Proofs.Ytdecaokngedghaa
namespace Go.Proofs.Ytdecaokngedghaa
open Go.RowKit
def formR (p : Int) (M : List (List Int)) : List (List Int) := if matB p M = true then (elim p M (M.headD []).length).1 else []
def rankR (p : Int) (M : List (List Int)) : Int := if matB p M = true then ((elim p M (M.headD []).length).2.length : Int) else -1
theorem VM_of_mat {p : Int} {M : List (List Int)} (h : matB p M = true) : VM p (M.headD []).length M := (matB_true h).2.2.2.2
theorem formR_yes {p : Int} {M : List (List Int)} (h : matB p M = true) : formR p M = (elim p M (M.headD []).length).1 := by unfold formR; rw [if_pos h]
theorem formR_no {p : Int} {M : List (List Int)} (h : matB p M = false) : formR p M = [] := by unfold formR; rw [if_neg (by simp [h])]
theorem OM.mono {w : World} {B B' n c : Nat} {A : Option Addr} {M : List (List Int)} {vs : List Value} (h : OM w B A n c M vs) (hB : B' ≤ B) : OM w B' A n c M vs :=
  ⟨owns_mono h.out hB, h.len, fun r row hr => let ⟨a, b, g1, g2⟩ := h.row r row hr; ⟨a, b, g1, owns_mono g2 hB⟩, h.apart⟩
end Go.Proofs.Ytdecaokngedghaa
namespace Go.Proofs.Ytdecaokngedghaa
open Go.RowKit
theorem below_undraw {B m : Nat} {w w' : World} (h : Below B (w.drewN m) w') : Below B w w' := ⟨h.os, h.tape, h.output, h.size, h.block⟩
theorem OM.addr {w : World} {B n c : Nat} {A : Option Addr} {M : List (List Int)} {vs : List Value} (h : OM w B A n c M vs) (hn : 1 ≤ n) : ∃ g, A = Option.some ⟨g, 0, Option.none⟩ := by
  rcases h.adr with ⟨_, h0, _⟩ | ⟨g, h1, _⟩
  · omega
  · exact ⟨g, h1⟩
def IntBelow (x : Int) (w : World) (e : Ending) (w' : World) : Prop := e = .returned (.int .i64 x) ∧ Below w.heap.size w w'
end Go.Proofs.Ytdecaokngedghaa
namespace Go.Proofs.Ytdecaokngedghaa
open Go.RowKit
theorem specCopy (A : Option Addr) (n c b o l : Nat) (M : List (List Int)) (w : World) (h : RA w A n b o M) (hn : n ≤ 24) (hl1 : 1 ≤ l) (hl9 : l ≤ 9) (hr : ∀ row ∈ M, row.length = l) :
    Calls Try.prog 85 #[.slice A n c] w (MadeM n M w) := by
  have hlen := h.len
  have HL := Lib.hid hlen
  have H := Lib.hid h
  have HR := Lib.hid hr
  clear h hlen hr
  go_enter Try.func85, Try.ntmps85
  go_wp2_with (fail)
  go_loopw [3, 4] (fun v i wr => ∃ (k : Nat) (Ao : Option Addr) (co : Nat) (vs : List Value), k ≤ n ∧ i = .int .i64 k ∧ v = .slice Ao k co ∧ OM wr w.heap.size Ao k co (M.take k) vs ∧ Below w.heap.size w wr) (fun _ i _ => n - (intOf i).toNat)
  case atStart => exact ⟨0, _, _, [], by omega, rfl, rfl, OM.empty w, (Below.refl _ _).alloc (Nat.le_refl _) _⟩
  case round =>
    obtain ⟨k, Ao, co, vs, hk, rfl, rfl, hown, hbel⟩ := hrel
    obtain ⟨wo, rfl⟩ : ∃ wo : World, wo = wr := ⟨_, rfl⟩
    by_cases hlt : k < n
    · obtain rfl := H.out.adr (by omega)
      obtain ⟨row, A1, c1, b1, o1, hrw, hcw, hI⟩ := H.out.row k hlt
      have hc := (keep_of_below hbel).cell hcw (fun h => h)
      have hrl := HR.out row (List.mem_of_getElem? hrw)
      rw [hrl] at hc hI
      obtain rfl := hI.adr (by omega)
      have hs0 := hbel.size
      have HO := Lib.hid hown
      have HB := Lib.hid hbel
      have HI := Lib.hid hI
      have HS := Lib.hid (take_snoc M k row hrw)
      have HRL := Lib.hid hrl
      clear hown hbel hI hrw hrl hcw
      have hc0 : (wo.alloc (.cells #[] 3)).cell? ⟨b, o + k, none⟩ = some (.slice (some ⟨b1, o1, none⟩) l c1) := by rw [World.cell?_alloc_lt _ _ _ (cell_lt hc)]; exact hc
      go_wp2_with (at_builtin; refine wpList_app_ints rfl (.tmp 13) (.tmp 17) rfl wo.heap.size _ 0 0 [] rfl (OI.empty wo) l c1 b1 o1 row rfl (HI.out.below (HB.out.alloc hs0 _)) (by omega) (by simp) ?_)
      intro A2 c2 w2 hI2 hK2
      have HI2 := Lib.hid (show OI w2 wo.heap.size A2 l c2 row by simpa using hI2)
      have hB2 : Below wo.heap.size wo w2 := ((Below.refl _ _).alloc (Nat.le_refl _) _).trans (hK2.below (by simp) (fun q hq => by simp [Value.ownBlock] at hq; omega))
      have HB2 := Lib.hid hB2
      have hs2 := hB2.size
      clear hI2 hK2 hB2
      go_wp2_with (at_builtin; refine wpList_app_row rfl (.tmp 12) (.tmp 19) rfl w.heap.size Ao k co vs rfl (World.ownsRow.alloc (owns_below HO.out.out HB2.out) _) A2 l c2 _ _ rfl ?_ (by omega) ?_ ?_)
      · simp
      · simp; omega
      · intro A3 c3 w3 ho3 hK3
        have hp := HO.out.push (HB2.out.alloc hs2 (.cells #[.slice A2 l c2] 23)) (row := row) (A1 := A2) (c1 := c2) (by rw [HRL.out]; exact HI2.out.alloc _) (by rw [HRL.out]; exact ho3) hK3 hs0
        rw [HS.out] at hp
        have HP := Lib.hid hp
        have HB3 := Lib.hid (HB.out.trans (((HB2.out.alloc hs2 (.cells #[.slice A2 l c2] 23)).mono hs0).trans (hK3.below (B := w.heap.size) (by simp; omega) (fun q hq => (HO.out.out.lt q hq).1))))
        clear hp ho3 hK3
        go_wp2_with (fail)
        go_roundw
        case rel => exact ⟨k + 1, _, _, _, by omega, by go_num, rfl, HP.out, HB3.out⟩
        case measure => simp [intOf]; omega
    · obtain rfl : k = n := by omega
      have e : M.take k = M := List.take_of_length_le (by rw [HL.out]; omega)
      rw [e] at hown
      have HO := Lib.hid hown
      clear e hown
      go_wp2_with (fail)
      go_ret
      exact ⟨_, _, _, rfl, HO.out, hbel⟩
end Go.Proofs.Ytdecaokngedghaa
namespace Go.Proofs.Ytdecaokngedghaa
open Go.RowKit
/-- the form and the columns of the chosen rows -/
def FormPost (p : Int) (l : Nat) (M : List (List Int)) (w : World) (e : Ending) (w' : World) : Prop :=
  ∃ (Ao : Option Addr) (co : Nat) (vs : List Value) (Ah : Option Addr) (ch : Nat), e = .returned (.tuple #[.slice Ao M.length co, .slice Ah (elim p M l).2.length ch]) ∧ OM w' w.heap.size Ao M.length co (elim p M l).1 vs ∧ OI w' w.heap.size Ah (elim p M l).2.length ch (headI (elim p M l).2) ∧ Below w.heap.size w w'
theorem OMF.cellAt {w : World} {B hi g n c l : Nat} {M : List (List Int)} {vs : List Value} {p : Int} (h : OMF w B hi g n c M vs) (hv : VM p l M) {r : Nat} (hr : r < n) :
    ∃ (row : List Int) (b' c' : Nat), M[r]? = some row ∧ row.length = l ∧ (∀ x ∈ row, numB p x = true) ∧ (1 ≤ l → vs[r]? = some (Value.slice (some ⟨b', 0, none⟩) l c') ∧ w.cell? ⟨g, r, none⟩ = some (.slice (some ⟨b', 0, none⟩) l c') ∧ OI w B (some ⟨b', 0, none⟩) l c' row ∧ IA w (some ⟨b', 0, none⟩) l b' 0 row) ∧ w.frozen? ⟨g, r, none⟩ = false := by
  obtain ⟨row, A', c', h1, h2, h3, h4, h5⟩ := h.cell hr
  obtain ⟨h6, h7⟩ := hv row (List.mem_of_getElem? h1)
  rw [h6] at h2 h3 h4
  obtain ⟨b', hia⟩ := h4.ia
  refine ⟨row, b', c', h1, h6, h7, fun hl => ?_, h5⟩
  obtain rfl := hia.adr (by omega)
  exact ⟨h2, h3, h4, hia⟩
theorem OMF.apart {w : World} {B hi g n c : Nat} {M : List (List Int)} {vs : List Value} (h : OMF w B hi g n c M vs) {i j : Nat} (hij : i ≠ j) {l l' ci cj bi bj : Nat} (hi' : vs[i]? = some (Value.slice (some ⟨bi, 0, none⟩) l ci)) (hj : vs[j]? = some (Value.slice (some ⟨bj, 0, none⟩) l' cj)) : bi ≠ bj := by
  intro e
  subst e
  rcases Nat.lt_or_gt_of_ne hij with hh | hh
  · rcases h.om.apart i j _ _ hh hi' hj with h1 | h1
    · simp [Value.ownBlock] at h1
    · exact h1 rfl
  · rcases h.om.apart j i _ _ hh hj hi' with h1 | h1
    · simp [Value.ownBlock] at h1
    · exact h1 rfl
theorem subRow_full {p t : Int} {xs ys : List Int} {n : Nat} (hx : xs.length = n) (hy : ys.length = n) : (subRow p t xs ys).length = n := by rw [subRow_len _ _ _ _ (by omega), hx]
theorem mixDone {α : Type} {xs ys : List α} {n : Nat} (hx : xs.length = n) (hy : ys.length = n) : xs.take n ++ ys.drop n = xs := by
  rw [List.take_of_length_le (by omega), List.drop_of_length_le (by omega)]; simp
theorem mixLen {xs ys : List Int} {n q : Nat} (hx : xs.length = n) (hy : ys.length = n) (hq : q ≤ n) : (xs.take q ++ ys.drop q).length = n := by simp; omega
theorem set_same {α : Type} {l : List α} {i : Nat} {a : α} (h : l[i]? = some a) : l.set i a = l := by
  refine List.ext_getElem? fun q => ?_
  by_cases e : q = i
  · subst e; rw [List.getElem?_set_self (List.getElem?_eq_some_iff.1 h).1, h]
  · rw [List.getElem?_set_ne (fun e' => e e'.symm)]
/-- a row as a part of it is changed: still valid rows -/
theorem VM.mixRow {p : Int} {l q i : Nat} {M : List (List Int)} {xs ys : List Int} (h : VM p l M) (hx : xs.length = l) (hy : ys.length = l) (hq : q ≤ l) (hvx : ∀ x ∈ xs, numB p x = true) (hvy : ∀ y ∈ ys, numB p y = true) : VM p l (M.set i (xs.take q ++ ys.drop q)) :=
  h.set (mixLen hx hy hq) (fun z hz => by
    rcases List.mem_append.1 hz with hz | hz
    · exact hvx z (List.mem_of_mem_take hz)
    · exact hvy z (List.mem_of_mem_drop hz))
theorem OMF.swapped' {w : World} {B hi g n c : Nat} {M : List (List Int)} {vs : List Value} (h : OMF w B hi g n c M vs) {r t : Nat} (hr : r < n) (ht : t < n) {sR sT : Value} (hvR : vs[r]? = some sR) (hvT : vs[t]? = some sT) :
    OMF ((w.setCell ⟨g, r, none⟩ sT).setCell ⟨g, t, none⟩ sR) B hi g n c (swapM M r t) (swapV vs r t) ∧ Keep (· = g) w ((w.setCell ⟨g, r, none⟩ sT).setCell ⟨g, t, none⟩ sR) := by
  obtain ⟨h1, _⟩ := World.ownsRow.stored h.om.out r sT
  obtain ⟨h3, _⟩ := World.ownsRow.stored h1 t sR
  have e : (vs.set r sT).set t sR = swapV vs r t := by
    unfold swapV
    rw [List.getD_eq_getElem?_getD, List.getD_eq_getElem?_getD, hvR, hvT]; rfl
  rw [e] at h3
  have hk : Keep (· = g) w ((w.setCell ⟨g, r, none⟩ sT).setCell ⟨g, t, none⟩ sR) := (setCell_keep w ⟨g, r, none⟩ sT).trans (setCell_keep _ ⟨g, t, none⟩ sR)
  exact ⟨h.swap hr ht h3 hk, hk⟩
theorem VM.mixM {p : Int} {l top col k : Nat} {M : List (List Int)} (hp : primeB p = true) (h : VM p l M) (ht : top < M.length) : VM p l ((clearM p M top col).take k ++ M.drop k) := fun row hr => by
  rcases List.mem_append.1 hr with hr | hr
  · exact h.clear hp ht row (List.mem_of_mem_take hr)
  · exact h row (List.mem_of_mem_drop hr)
theorem mix_stay {p : Int} {top col k : Nat} {M : List (List Int)} (ht : top < M.length) (hk : k < M.length) (e : k = top) : (clearM p M top col).take k ++ M.drop k = (clearM p M top col).take (k + 1) ++ M.drop (k + 1) := by
  have hg : M[k]? = some (M[k]'hk) := List.getElem?_eq_getElem hk
  have h1 := set_step (clearM p M top col) M k _ (clearM_len _ _ _ _) (by rw [e, clearM_top _ _ _ _ ht, ← e]; exact hg)
  rw [← h1]
  exact (set_same (by rw [mix_get _ _ _ (clearM_len p M top col) (by rw [clearM_len]; exact hk)]; exact hg)).symm
/-- one store into a row -/
theorem OMF.store {w : World} {B hi g n c : Nat} {M : List (List Int)} {vs : List Value} (h : OMF w B hi g n c M vs) {r l b' c' q : Nat} {row : List Int} (hr : M[r]? = some row) (hl : row.length = l) (hv : vs[r]? = some (Value.slice (some ⟨b', 0, none⟩) l c')) (hI : OI w B (some ⟨b', 0, none⟩) l c' row) (x : Int) :
    OMF (w.setCell ⟨b', q, none⟩ (.int .i64 x)) B hi g n c (M.set r (row.set q x)) vs ∧ Keep (fun q => B ≤ q ∧ q < hi) w (w.setCell ⟨b', q, none⟩ (.int .i64 x)) := by
  subst hl
  obtain ⟨h1, _⟩ := World.ownsRow.stored hI q (.int .i64 x)
  rw [ints_set] at h1
  have hk := setCell_keep w ⟨b', q, none⟩ (.int .i64 x)
  exact ⟨h.setRow hr hv (by simp) h1 (hk.mono (fun y _ hy => by rw [hy]; rfl)), hk.mono (fun y _ hy => by have := h.foot r _ b' hv rfl; rw [hy]; exact this)⟩
set_option maxRecDepth 100000 in
set_option maxHeartbeats 1600000 in
theorem specForm (p : Int) (A : Option Addr) (n c b o l : Nat) (M : List (List Int)) (w : World) (h : RA w A n b o M) (hp : primeB p = true) (hv : VM p l M) (hn1 : 1 ≤ n) (hn8 : n ≤ 24) (hl1 : 1 ≤ l) (hl9 : l ≤ 9) :
    Calls Try.prog 64 #[.int .i64 p, .slice A n c] w (FormPost p l M w) := by
  have hpb := prime_ge hp
  have hML := h.len
  have hinv := fun j => elim_inv hp hv j
  have HRW := Lib.hid (show ∀ row ∈ M, row.length = l from fun row hr => (hv row hr).1)
  have HINV := Lib.hid hinv
  have HP := Lib.hid hp
  have HML := Lib.hid hML
  have H := Lib.hid h
  clear h hinv hp hv hML
  go_enter Try.func64, Try.ntmps64
  go_wp2_with (fail)
  refine (specCopy A n c b o l M _ H.out hn8 hl1 hl9 HRW.out).mono ?_
  rintro e w1 ⟨A1, c1, vs, rfl, hO, hB⟩
  obtain ⟨g, hg⟩ := hO.addr hn1
  subst hg
  have hgl : w.heap.size ≤ g ∧ g < w1.heap.size := hO.out.lt g rfl
  have HF := Lib.hid (OMF.mk hO hgl.2 hO.foot)
  have hs1 := hB.size
  clear hO
  go_wp2_with (fail)
  go_loopw [7, 8, 9] (fun v t i wr => ∃ (j : Nat) (A' : Option Addr) (c' : Nat) (vs' : List Value), j ≤ l ∧ i = .int .i64 j ∧ t = .int .i64 ((elim p M j).2.length : Nat) ∧ v = .slice A' (elim p M j).2.length c' ∧ OMF wr w.heap.size w1.heap.size g n c1 (elim p M j).1 vs' ∧ OI wr w1.heap.size A' (elim p M j).2.length c' (headI (elim p M j).2) ∧ Below w.heap.size w wr ∧ w1.heap.size ≤ wr.heap.size) (fun _ _ i _ => l - (intOf i).toNat)
  case atStart => exact ⟨0, _, _, _, by omega, rfl, rfl, rfl, HF.out.keep ((Keep.refl (fun _ => False) w1).alloc _) (fun _ _ h => h), OI.empty w1, hB.alloc hs1 _, by simp⟩
  case round =>
    obtain ⟨j, A', c', vs', hj, rfl, rfl, rfl, hom, hch, hbel, hszo⟩ := hrel
    obtain ⟨wo, rfl⟩ : ∃ wo : World, wo = wr := ⟨_, rfl⟩
    obtain ⟨hi1, hi2, hi3, hi4⟩ := HINV.out j
    obtain ⟨N, hN⟩ : ∃ N, (elim p M j).1 = N := ⟨_, rfl⟩
    obtain ⟨hs, hHS⟩ : ∃ hs, (elim p M j).2 = hs := ⟨_, rfl⟩
    obtain ⟨top, htop⟩ : ∃ top, hs.length = top := ⟨_, rfl⟩
    rw [hN, HML.out] at hi1
    rw [hN] at hi2 hom
    rw [hHS, htop] at hch hi3
    rw [hHS] at hi4
    rw [HML.out] at hi3
    simp only [hHS, htop]
    obtain ⟨r0, b0, c0, _, _, _, h0x, _⟩ := hom.cellAt hi2 (r := 0) (by omega)
    have hc0 := (h0x hl1).2.1
    have HO := Lib.hid hom
    have HCH := Lib.hid hch
    have HB := Lib.hid hbel
    have HV := Lib.hid hi2
    have HN := Lib.hid hN
    have HHS := Lib.hid hHS
    have HT := Lib.hid htop
    have HNL := Lib.hid hi1
    have hlo : 0 < n := by omega
    clear hom hch hbel hi2 hN hHS htop hi1 h0x
    by_cases hlt : j < l
    · go_wp2_with (fail)
      go_loop [10] (fun i => ∃ k : Nat, top ≤ k ∧ k ≤ n ∧ i = .int .i64 k ∧ Hid (∀ q, top ≤ q → q < k → at2 N q j = 0)) (fun i => n - (intOf i).toNat)
      case atStart => exact ⟨top, Nat.le_refl _, by omega, rfl, fun q h1 h2 => absurd h2 (by omega)⟩
      case round =>
        obtain ⟨k, hk0, hk, rfl, hz⟩ := hrel
        by_cases hlk : k < n
        · obtain ⟨row, bk, ck, hmk, hrl, hrv, hkx, _⟩ := HO.out.cellAt HV.out hlk
          obtain ⟨hvk, hck, hIk, hIA⟩ := hkx hl1
          obtain ⟨x, hx, hxc⟩ := hIA.cell j hlt
          rw [Nat.zero_add] at hxc
          have HAT := Lib.hid (at2_of hmk hx)
          have HVK := Lib.hid hvk
          clear hkx hmk hrl hrv hvk hIk hIA hx
          by_cases hx0 : x = 0
          · have hb : (x == 0) = true := by simp [hx0]
            have HX0 := Lib.hid hx0
            clear hx0
            go_wp2_with (fail)
            go_round
            case rel => exact ⟨k + 1, by omega, by omega, by go_num, fun q h1 h2 => if e : q = k then by rw [e, HAT.out, HX0.out] else hz.out q h1 (by omega)⟩
            case measure => simp [intOf]; omega
          · have hb : (x == 0) = false := by simp [hx0]
            have hsome : firstW N j (N.length - top) top = some k := firstW_is hk0 (by rw [HNL.out]; omega) (by rw [HAT.out]; exact hx0) hz.out
            have HG := Lib.hid (elim_go (p := p) (M := M) (j := j) (r := k) (by rw [HN.out, HHS.out, HT.out]; exact hsome))
            have HX0 := Lib.hid hx0
            clear hx0 hsome
            have hqn : ((k : Int) == (n : Int)) = false := by rw [beq_eq_false_iff_ne]; omega
            have htn : top < n := by omega
            obtain ⟨rowT, bT, cT, hmT, hrlT, hrvT, hTx, hfT⟩ := HO.out.cellAt HV.out htn
            obtain ⟨hvT, hcT, hIT, hIAT⟩ := hTx hl1
            have hfk := World.ownsRow.frozenAt HO.out.om.out k
            obtain ⟨hO2, hK2⟩ := HO.out.swapped' hlk htn HVK.out hvT
            obtain ⟨v2, hv2⟩ : ∃ v2, (wo.setCell ⟨g, k, none⟩ (.slice (some ⟨bT, 0, none⟩) l cT)).cell? ⟨g, top, none⟩ = some v2 := by
              by_cases e : k = top
              · subst e; exact ⟨_, World.cell?_setCell_same _ _ _ hck⟩
              · exact ⟨_, (World.cell?_setCell_other _ _ _ _ (fun h => e (congrArg Addr.off h))).trans hcT⟩
            have HO2 := Lib.hid hO2
            have HK2 := Lib.hid hK2
            clear hO2 hK2 hmT hrlT hrvT hTx hvT hIT hIAT
            -- up to the inverse: the rows are exchanged
            obtain ⟨w2, hw2⟩ : ∃ w2, w2 = (wo.setCell ⟨g, k, none⟩ (.slice (some ⟨bT, 0, none⟩) l cT)).setCell ⟨g, top, none⟩ (.slice (some ⟨bk, 0, none⟩) l ck) := ⟨_, rfl⟩
            rw [← hw2] at HO2 HK2
            have HVM2 := Lib.hid (HV.out.swap (i := k) (j := top) (by rw [HNL.out]; exact hlk) (by rw [HNL.out]; exact htn))
            obtain ⟨row2, b2, c2, hm2, hrl2, hrv2, h2x, hf2⟩ := HO2.out.cellAt HVM2.out htn
            obtain ⟨hv2', hc2, hI2, hIA2⟩ := h2x hl1
            obtain ⟨x2, hx2, hxc2⟩ := hIA2.cell j hlt
            rw [Nat.zero_add] at hxc2
            have hxn := hrv2 x2 (List.mem_of_getElem? hx2)
            have hat2 : at2 (swapM N k top) top j = x2 := at2_of hm2 hx2
            have hx20 : x2 ≠ 0 := by
              rw [← hat2]
              have e2 : at2 (swapM N k top) top j = at2 N k j := by unfold at2; rw [getD_congr (swapM_at (by rw [HNL.out]; exact hlk) (by rw [HNL.out]; exact htn))]
              rw [e2, HAT.out]; exact HX0.out
            obtain ⟨u, hu⟩ : ∃ u, invM p x2 = u := ⟨_, rfl⟩
            have HUN := Lib.hid (show numB p u = true by rw [← hu]; exact numB_mk HP.out (inv_bd HP.out).1 (inv_bd HP.out).2)
            have HXN := Lib.hid (numB_true hxn).2
            have HM3 := Lib.hid (show (swapM N k top).set top (scaleRow p u row2) = chooseM p N k top j by unfold chooseM; rw [hat2, hu, getD_of hm2])
            have HU := Lib.hid hu
            have HM2 := Lib.hid hm2
            have HRV2 := Lib.hid hrv2
            have HRL2 := Lib.hid hrl2
            clear hm2 hrl2 hrv2 h2x hv2' hI2 hIA2 hx2 hxn hat2 hx20 hu
            rw [hw2] at hc2 hxc2
            go_wp2_with (fail)
            rw [← hw2]
            refine (specBack p x2 _ HP.out HXN.out.1 HXN.out.2).mono ?_
            rintro e wb ⟨rfl, rfl⟩
            rw [HU.out]
            have HKW := Lib.hid (HK2.out.mono (T := fun q => w.heap.size ≤ q ∧ q < w1.heap.size) (fun q _ hq => by rw [hq]; exact hgl))
            clear hw2 hv2 hck hcT hf2 hfk hfT hc2 hxc2 hxc HX0 HAT HVK HK2 HU
            go_wp2_with (fail)
            go_loopw [13] (fun i wi => ∃ q : Nat, q ≤ l ∧ i = .int .i64 q ∧ OMF wi w.heap.size w1.heap.size g n c1 ((swapM N k top).set top ((scaleRow p u row2).take q ++ row2.drop q)) (swapV vs' k top) ∧ Keep (fun q => w.heap.size ≤ q ∧ q < w1.heap.size) wo wi) (fun i _ => l - (intOf i).toNat)
            case atStart => exact ⟨0, by omega, rfl, by rw [List.take_zero, List.nil_append, List.drop_zero, set_same HM2.out]; exact HO2.out, HKW.out⟩
            case round =>
              obtain ⟨q, hq, rfl, hom, hkp⟩ := hrel
              have hVq := HVM2.out.mixRow (i := top) (by rw [scaleRow_len, HRL2.out]) HRL2.out hq (scaleRow_valid (t := u) HP.out row2) HRV2.out
              obtain ⟨rowq, bq, cq, hmq, hrlq, hrvq, hqx, hfq⟩ := hom.cellAt hVq htn
              obtain ⟨hvq, hcq, hIq, hIAq⟩ := hqx hl1
              rw [List.getElem?_set_self (by rw [swapM_len, HNL.out]; exact htn)] at hmq
              obtain rfl := Option.some.inj hmq
              by_cases hlq : q < l
              · have hl := HRL2.out
                have hxq : row2[q]? = some (row2[q]'(by omega)) := List.getElem?_eq_getElem (by omega)
                obtain ⟨z, hz⟩ : ∃ z, row2[q]'(by omega) = z := ⟨_, rfl⟩
                rw [hz] at hxq
                have hzb := numB_bd (HRV2.out z (List.mem_of_getElem? hxq))
                have hub := numB_bd HUN.out
                have hmb := mul_bd hzb.1 (by omega) hub.1 (by omega)
                obtain ⟨z', hz', hzc⟩ := hIAq.cell q hlq
                rw [mix_get _ _ _ (scaleRow_len p u row2) (by rw [scaleRow_len]; omega), hxq] at hz'
                obtain rfl := Option.some.inj hz'
                rw [Nat.zero_add] at hzc
                have hfz := World.ownsRow.frozenAt hIq q
                obtain ⟨hO4, hK4⟩ := hom.store (List.getElem?_set_self (by rw [swapM_len, HNL.out]; exact htn)) hrlq hvq hIq (q := q) (z * u % p)
                rw [List.set_set, mix_set (scaleRow_len p u row2) (scaleRow_get hxq)] at hO4
                have HO4 := Lib.hid hO4
                have HK4 := Lib.hid (hkp.trans hK4)
                clear hO4 hK4 hkp hom hVq hrlq hrvq hqx hvq hIq hIAq hl hxq hz hz'
                go_wp2_with (fail)
                refine wp_quiet_tail 17 (by kernel_rfl) (by kernel_rfl) ?_
                simp only [List.take_succ_cons, List.take_zero, List.drop_succ_cons, List.drop_zero]
                repeat (go_big_quiet_step (fail))
                refine wpQuiet_nil ?_
                intro _ hw'
                obtain ⟨nq, hw''⟩ := hw'
                subst hw''
                go_wp2_with (fail)
                go_roundw
                case rel => exact ⟨q + 1, by omega, by go_num, HO4.out.drewN _, HK4.out.drewN _⟩
                case measure => simp [intOf]; omega
              · obtain rfl : q = l := by omega
                rw [mixDone (by rw [scaleRow_len]; exact HRL2.out) HRL2.out, HM3.out] at hom
                obtain ⟨M3, hM3⟩ : ∃ M3, chooseM p N k top j = M3 := ⟨_, rfl⟩
                have HL3 := Lib.hid (show M3.length = n by rw [← hM3, chooseM_len, HNL.out])
                have HV3 := Lib.hid (show VM p q M3 by rw [← hM3]; exact HV.out.choose HP.out (by rw [HNL.out]; exact hlk) (by rw [HNL.out]; exact htn))
                rw [HN.out, HHS.out, HT.out] at HG
                rw [hM3] at hom HG
                have HO3 := Lib.hid hom
                have HK3 := Lib.hid hkp
                have HG2 := Lib.hid HG.out
                clear hom hkp HG hM3 HM3 hVq hmq hrlq hrvq hqx hvq hIq hIAq HO2 HVM2 HKW HRV2 HRL2 HM2 HUN HXN
                go_wp2_with (fail)
                go_loopw [14, 15, 16] (fun i _ _ wi => ∃ k2 : Nat, k2 ≤ n ∧ i = .int .i64 k2 ∧ OMF wi w.heap.size w1.heap.size g n c1 ((clearM p M3 top j).take k2 ++ M3.drop k2) (swapV vs' k top) ∧ Keep (fun q => w.heap.size ≤ q ∧ q < w1.heap.size) wo wi) (fun i _ _ _ => n - (intOf i).toNat)
                case atStart => exact ⟨0, by omega, rfl, by simpa using HO3.out, HK3.out⟩
                case round =>
                  obtain ⟨k2, hk2, rfl, hom, hkp⟩ := hrel
                  by_cases hlk2 : k2 < n
                  · have hL3 := HL3.out
                    have hVM := Lib.hid (VM.mixM (top := top) (col := j) (k := k2) HP.out HV3.out (by omega))
                    obtain ⟨row, bi, ci, hmi, hrl, hrv, hix, hfi⟩ := hom.cellAt hVM.out hlk2
                    obtain ⟨hvi, hci, hIi, hIAi⟩ := hix hl1
                    obtain ⟨rowt, bt, ct, hmt, hrlt, hrvt, htx, hft⟩ := hom.cellAt hVM.out htn
                    obtain ⟨hvt, hct, hIt, hIAt⟩ := htx hl1
                    rw [mix_get _ _ _ (clearM_len p M3 top j) (by rw [clearM_len]; omega)] at hmi
                    rw [mix_top (by omega) (by omega)] at hmt
                    obtain ⟨x, hx, hxc⟩ := hIAi.cell j hlt
                    rw [Nat.zero_add] at hxc
                    by_cases hkt : k2 = top
                    · have hqq : ((k2 : Int) != (top : Int)) = false := eqInt hkt
                      have HS := Lib.hid (mix_stay (p := p) (M := M3) (top := top) (col := j) (k := k2) (by omega) (by omega) hkt)
                      have HO := Lib.hid hom
                      have HKP := Lib.hid hkp
                      clear hmi hvi hIi hmt hvt hIt hrl hrv hrlt hrvt hkt hL3 hom hkp hIAi hIAt hix htx hx
                      go_wp2_with (fail)
                      go_loop [16] (fun i => i = .int .i64 0) (fun _ => 0)
                      case atStart => rfl
                      case round =>
                        obtain rfl := hrel
                        go_wp2_with (fail)
                        go_roundw
                        case rel => exact ⟨k2 + 1, by omega, by go_num, by rw [← HS.out]; exact HO.out, HKP.out⟩
                        case measure => simp [intOf]; omega
                    · have hqq : ((k2 : Int) != (top : Int)) = true := neInt hkt
                      have hxn := hrv x (List.mem_of_getElem? hx)
                      have hat : at2 M3 k2 j = x := at2_of hmi hx
                      have HSR := Lib.hid (show (clearM p M3 top j)[k2]? = some (subRow p x row rowt) by
                        rw [clearM_get _ _ _ _ _ (by omega)]; unfold clearRow; rw [if_neg hkt, hat, getD_of hmi, getD_of hmt])
                      have HO := Lib.hid hom
                      have HKP := Lib.hid hkp
                      have HMI := Lib.hid hmi
                      have HMT := Lib.hid hmt
                      have HRL := Lib.hid hrl
                      have HXN := Lib.hid hxn
                      have HRV := Lib.hid hrv
                      have HRVT := Lib.hid hrvt
                      have HRLT := Lib.hid hrlt
                      clear hom hkp hmi hmt hvi hvt hrl hrv hrlt hrvt hIi hIt hIAi hIAt hx hxn hat hL3 hix htx
                      go_wp2_with (fail)
                      go_loopw [16] (fun i wi => ∃ s : Nat, s ≤ q ∧ i = .int .i64 s ∧ OMF wi w.heap.size w1.heap.size g n c1 (((clearM p M3 top j).take k2 ++ M3.drop k2).set k2 ((subRow p x row rowt).take s ++ row.drop s)) (swapV vs' k top) ∧ Keep (fun q => w.heap.size ≤ q ∧ q < w1.heap.size) wo wi) (fun i _ => q - (intOf i).toNat)
                      case atStart => exact ⟨0, by omega, rfl, by rw [List.take_zero, List.nil_append, List.drop_zero, set_same (by rw [mix_get _ _ _ (clearM_len p M3 top j) (by rw [clearM_len, HL3.out]; exact hlk2)]; exact HMI.out)]; exact HO.out, HKP.out⟩
                      case round =>
                        obtain ⟨s, hs', rfl, hom, hkp⟩ := hrel
                        have hsl : (subRow p x row rowt).length = q := subRow_full HRL.out HRLT.out
                        have hVq := hVM.out.mixRow (i := k2) hsl HRL.out hs' (subRow_valid HP.out row rowt) HRV.out
                        obtain ⟨rowq, bq, cq, hmq, hrlq, hrvq, hqx, hfq⟩ := hom.cellAt hVq hlk2
                        obtain ⟨hvq, hcq, hIq, hIAq⟩ := hqx hl1
                        obtain ⟨rowt', bt', ct', hmt', hrlt', hrvt', htx', hft'⟩ := hom.cellAt hVq htn
                        obtain ⟨hvt', hct', hIt', hIAt'⟩ := htx' hl1
                        have hml : k2 < ((clearM p M3 top j).take k2 ++ M3.drop k2).length := by simp [clearM_len, HL3.out]; omega
                        rw [List.getElem?_set_self hml] at hmq
                        obtain rfl := Option.some.inj hmq
                        rw [List.getElem?_set_ne (by intro e; rw [e] at hqq; simp at hqq), mix_top (by rw [HL3.out]; omega) (by rw [HL3.out]; omega), HMT.out] at hmt'
                        obtain rfl := Option.some.inj hmt'
                        by_cases hlq : s < q
                        · have hl := HRL.out
                          have hlt' := HRLT.out
                          have hxq : row[s]? = some (row[s]'(by omega)) := List.getElem?_eq_getElem (by omega)
                          obtain ⟨z, hz⟩ : ∃ z, row[s]'(by omega) = z := ⟨_, rfl⟩
                          rw [hz] at hxq
                          have hzb := numB_bd (HRV.out z (List.mem_of_getElem? hxq))
                          obtain ⟨z', hz', hzc⟩ := hIAq.cell s hlq
                          rw [mix_get _ _ _ (by rw [hsl]; omega) (by rw [hsl]; exact hlq), hxq] at hz'
                          obtain rfl := Option.some.inj hz'
                          obtain ⟨y, hy, hyc⟩ := hIAt'.cell s hlq
                          have hyb := numB_bd (HRVT.out y (List.mem_of_getElem? hy))
                          have hxb := numB_bd HXN.out
                          have hmb := mul_bd hxb.1 (by omega) hyb.1 (by omega)
                          rw [Nat.zero_add] at hzc hyc
                          have hfz := World.ownsRow.frozenAt hIq s
                          obtain ⟨hO4, hK4⟩ := hom.store (List.getElem?_set_self hml) hrlq hvq hIq (q := s) ((z - x * y) % p)
                          rw [List.set_set, mix_set (by rw [hsl]; omega) (subRow_get hxq hy)] at hO4
                          have HO4 := Lib.hid hO4
                          have HK4 := Lib.hid (hkp.trans hK4)
                          obtain ⟨u', hu'⟩ : ∃ u', (z - x * y) % p = u' := ⟨_, rfl⟩
                          rw [hu'] at HO4 HK4
                          have HU' := Lib.hid hu'
                          clear hO4 hK4 hkp hom hVq hrlq hrvq hqx hvq hIq hIAq hl hxq hz hz' hy hml hsl hlt' hrlt' hrvt' htx' hvt' hIt' hIAt' hu'
                          go_wp2_with (fail)
                          refine wp_quiet_tail 25 (by kernel_rfl) (by kernel_rfl) ?_
                          simp only [List.take_succ_cons, List.take_zero, List.drop_succ_cons, List.drop_zero]
                          repeat (go_big_quiet_step ((go_at_call 72; exact quiet_same (l1Mod_is HU'.out _ hpb.1 hpb.2))))
                          refine wpQuiet_nil ?_
                          intro _ hw'
                          obtain ⟨nq, hw''⟩ := hw'
                          subst hw''
                          go_wp2_with (fail)
                          go_roundw
                          case rel => exact ⟨s + 1, by omega, by go_num, HO4.out.drewN _, HK4.out.drewN _⟩
                          case measure => simp [intOf]; omega
                        · obtain rfl : s = q := by omega
                          rw [mixDone hsl HRL.out, set_step _ _ k2 _ (clearM_len _ _ _ _) HSR.out] at hom
                          have HO5 := Lib.hid hom
                          have HK5 := Lib.hid hkp
                          clear hom hkp hVq hrlq hrvq hqx hvq hIq hIAq hml hsl hrlt' hrvt' htx' hvt' hIt' hIAt'
                          go_wp2_with (fail)
                          go_roundw
                          case rel => exact ⟨k2 + 1, by omega, by go_num, HO5.out, HK5.out⟩
                          case measure => simp [intOf]; omega
                  · obtain rfl : k2 = n := by omega
                    rw [mixDone (xs := clearM p M3 top j) (ys := M3) (n := k2) (by rw [clearM_len]; exact HL3.out) HL3.out] at hom
                    have HO := Lib.hid hom
                    have HKP := Lib.hid hkp
                    have HCW := Lib.hid (show OI wr w1.heap.size A' top c' (headI hs) from owns_keep HCH.out hkp (fun q hq hs => by have := (HCH.out.lt q hq).1; omega))
                    have HBW := Lib.hid (HB.out.trans (hkp.below (B := w.heap.size) (by have := HB.out.size; omega) (fun q hq => hq.1)))
                    have hsw := HBW.out.size
                    have hsw2 : w1.heap.size ≤ wr.heap.size := Nat.le_trans hszo hkp.size
                    clear hom hkp hcq
                    go_wp2_with (at_builtin; refine wpList_app_int rfl (.tmp 156) (.tmp 158) rfl w1.heap.size A' top c' _ rfl (HCW.out.alloc _) (j : Int) _ _ rfl ?_ (by omega) ?_ ?_)
                    · simp
                    · simp; omega
                    · intro A6 c6 w6 hI6 hK6
                      have HI6 := Lib.hid hI6
                      have hst : ∀ q, (Value.slice A' top c').ownBlock = some q → w1.heap.size ≤ q := fun q hq => ((HCW.out).lt q hq).1
                      have HO6 := Lib.hid ((HO.out.keep ((Keep.refl (fun _ => False) _).alloc (.cells #[.int .i64 (j : Int)] 3)) (fun _ _ h => h)).keep hK6 (fun q hq hs => by have := hst q hs; omega))
                      have HB6 := Lib.hid ((HBW.out.alloc (by omega) (.cells #[.int .i64 (j : Int)] 3)).trans (hK6.below (B := w.heap.size) (by simp; omega) (fun q hq => by have := hst q hq; omega)))
                      have hsw6 : w1.heap.size ≤ w6.heap.size := Nat.le_trans (by simp; omega) hK6.size
                      clear hI6 hK6 hst
                      go_wp2_with (fail)
                      go_roundw
                      case rel => exact ⟨j + 1, A6, c6, swapV vs' k top, by omega, by go_num, by rw [HG2.out]; simp [HT.out], by rw [HG2.out]; simp [HT.out], by rw [HG2.out]; exact HO6.out, by rw [HG2.out]; simpa [headI, HT.out] using HI6.out, HB6.out, hsw6⟩
                      case measure => simp [intOf]; omega
        · obtain rfl : k = n := by omega
          have hnone : firstW N j (N.length - top) top = none := firstW_not (fun q h1 h2 => hz.out q h1 (by rw [HNL.out] at h2; omega))
          have HS := Lib.hid (elim_stay (p := p) (M := M) (j := j) (by rw [HN.out, HHS.out, HT.out]; exact hnone))
          have hqn : ((k : Int) == (k : Int)) = true := by simp
          clear hnone
          go_wp2_with (fail)
          go_roundw
          case rel => exact ⟨j + 1, A', c', vs', by omega, by go_num, by rw [HS.out, HHS.out, HT.out], by rw [HS.out, HHS.out, HT.out], by rw [HS.out, HN.out]; exact HO.out, by rw [HS.out, HHS.out, HT.out]; exact HCH.out, HB.out, hszo⟩
          case measure => simp [intOf]; omega
    · obtain rfl : j = l := by omega
      go_wp2_with (fail)
      go_ret2
      exact ⟨_, _, _, _, _, by rw [HML.out, HHS.out, HT.out]; rfl, by rw [HN.out, HML.out]; exact HO.out.om, by rw [HHS.out, HT.out]; exact owns_mono HCH.out hs1, HB.out⟩
end Go.Proofs.Ytdecaokngedghaa
namespace Go.Proofs.Ytdecaokngedghaa
open Go.RowKit
theorem below_head {B m : Nat} {w w1 w' : World} (hm : w1 = w.drewN m) (h : Below B w1 w') : Below B w w' := by subst hm; exact below_undraw h
theorem RA.seen {w : World} {A : Option Addr} {n b o : Nat} {M : List (List Int)} (h : RA w A n b o M) (m : Nat) : RA (w.drewN m) A n b o M := h.drewN ⟨m, rfl⟩
theorem specMatRank (p : Int) (A : Option Addr) (n c b o : Nat) (M : List (List Int)) (w : World) (h : RA w A n b o M) :
    Calls Try.prog 57 #[.int .i64 p, .slice A n c] w (IntBelow (rankR p M) w) := by
  have hbig := h.big
  have H := Lib.hid h
  clear h
  rcases hv : matB p M
  · have HV := Lib.hid hv
    have HR := Lib.hid (show rankR p M = -1 by unfold rankR; rw [if_neg (by simp [hv])])
    clear hv
    go_enter Try.func57, Try.ntmps57
    go_wp2_with (fail)
    refine (specMatValid p A n c b o M _ H.out).mono ?_
    rintro e w1 ⟨rfl, m, rfl⟩
    rw [HV.out]
    go_wp2_with (fail)
    go_ret
    exact ⟨by rw [HR.out]; rfl, below_undraw (Below.refl _ _)⟩
  · obtain ⟨hn1, hn8, hl1, hl8, hrows⟩ := matB_true hv
    have hL := H.out.len
    obtain ⟨l0, hl0⟩ : ∃ l0, (M.headD []).length = l0 := ⟨_, rfl⟩
    have hR : rankR p M = ((elim p M l0).2.length : Int) := by unfold rankR; rw [if_pos hv, hl0]
    have hvm := VM_of_mat hv
    have hp := prime_of_mat hv
    rw [hl0] at hl1 hl8 hrows hvm
    rw [hL] at hn1 hn8
    have hinv := elim_inv hp hvm l0
    have HV := Lib.hid hv
    have HR := Lib.hid hR
    have HVM := Lib.hid hvm
    have HP := Lib.hid hp
    have hlen := hinv.2.2.1
    clear hv hrows hl0 hR hvm hp hinv
    go_enter Try.func57, Try.ntmps57
    go_wp2_with (fail)
    refine (specMatValid p A n c b o M _ H.out).mono ?_
    rintro e w1 ⟨rfl, m, rfl⟩
    rw [HV.out]
    go_wp2_with (fail)
    refine (specForm p A n c b o l0 M _ (H.out.seen m) HP.out HVM.out hn1 (by omega) hl1 (by omega)).mono ?_
    rintro e w2 ⟨A2, c2, vs2, A3, c3, rfl, hO, hI, hB⟩
    have HB := Lib.hid (below_undraw hB)
    clear hO hI hB
    go_wp2_with (fail)
    go_ret
    exact ⟨by rw [HR.out]; rfl, HB.out⟩
theorem formR_tot (p : Int) (M : List (List Int)) : tot (formR p M) ≤ 64 := by
  rcases h : matB p M
  · rw [formR_no h]; simp [tot]
  · rw [formR_yes h]
    obtain ⟨h1, h2, h3, h4, _⟩ := matB_true h
    obtain ⟨g1, g2, _, _⟩ := elim_inv (prime_of_mat h) (VM_of_mat h) (M.headD []).length
    have := tot_rows (elim p M (M.headD []).length).1 8 (fun row hr => by rw [(g2 row hr).1]; omega)
    omega
end Go.Proofs.Ytdecaokngedghaa
namespace Go.Proofs.Ytdecaokngedghaa
open Go.RowKit
def kerFill (p : Int) (F : List (List Int)) (hs : List Nat) (c l : Nat) : Nat → List Int
  | 0 => (List.replicate l 0).set c 1
  | k + 1 => (kerFill p F hs c l k).set (hs.getD k 0) (-(at2 F k c) % p)
theorem kerFill_len (p : Int) (F : List (List Int)) (hs : List Nat) (c l : Nat) : ∀ k, (kerFill p F hs c l k).length = l
  | 0 => by simp [kerFill]
  | k + 1 => by simp [kerFill, kerFill_len p F hs c l k]
def kerM (p : Int) (F : List (List Int)) (hs : List Nat) (l : Nat) : Nat → List (List Int)
  | 0 => []
  | c + 1 => if c ∈ hs then kerM p F hs l c else kerM p F hs l c ++ [kerFill p F hs c l hs.length]
theorem kerM_stay {p : Int} {F : List (List Int)} {hs : List Nat} {l c : Nat} (h : c ∈ hs) : kerM p F hs l (c + 1) = kerM p F hs l c := by
  show (if c ∈ hs then _ else _) = _
  rw [if_pos h]
theorem kerM_go {p : Int} {F : List (List Int)} {hs : List Nat} {l c : Nat} (h : c ∉ hs) : kerM p F hs l (c + 1) = kerM p F hs l c ++ [kerFill p F hs c l hs.length] := by
  show (if c ∈ hs then _ else _) = _
  rw [if_neg h]
theorem kerM_len_le (p : Int) (F : List (List Int)) (hs : List Nat) (l : Nat) : ∀ c, (kerM p F hs l c).length ≤ c
  | 0 => by simp [kerM]
  | c + 1 => by
    have := kerM_len_le p F hs l c
    by_cases h : c ∈ hs
    · rw [kerM_stay h]; omega
    · rw [kerM_go h]; simp; omega
def kernelR (p : Int) (M : List (List Int)) : List (List Int) :=
  if matB p M = true then kerM p (elim p M (M.headD []).length).1 (elim p M (M.headD []).length).2 (M.headD []).length (M.headD []).length else []
theorem kernelR_yes {p : Int} {M : List (List Int)} (h : matB p M = true) : kernelR p M = kerM p (elim p M (M.headD []).length).1 (elim p M (M.headD []).length).2 (M.headD []).length (M.headD []).length := by unfold kernelR; rw [if_pos h]
theorem kernelR_no {p : Int} {M : List (List Int)} (h : matB p M = false) : kernelR p M = [] := by unfold kernelR; rw [if_neg (by simp [h])]
theorem elim_heads (p : Int) (M : List (List Int)) : ∀ c, ∀ h ∈ (elim p M c).2, h < c
  | 0 => by intro h hh; simp [elim] at hh
  | c + 1 => by
    intro h hh
    change h ∈ (stepE p (elim p M c).1 (elim p M c).2 c).2 at hh
    unfold stepE at hh
    split at hh
    · have := elim_heads p M c h hh; omega
    · rcases List.mem_append.1 hh with hh | hh
      · have := elim_heads p M c h hh; omega
      · simp at hh; omega
theorem headI_mem {hs : List Nat} {c : Nat} : (c : Int) ∈ headI hs ↔ c ∈ hs := by
  unfold headI
  rw [List.mem_map]
  exact ⟨fun ⟨a, h1, h2⟩ => by have : a = c := by omega
                               exact this ▸ h1, fun h => ⟨c, h, rfl⟩⟩
theorem headI_get {hs : List Nat} {k : Nat} (h : k < hs.length) : (headI hs)[k]? = some ((hs.getD k 0 : Nat) : Int) := by
  unfold headI; rw [List.getElem?_map, List.getD_eq_getElem?_getD, List.getElem?_eq_getElem h]; rfl
theorem getD_mem_nat {hs : List Nat} {k : Nat} (h : k < hs.length) : hs.getD k 0 ∈ hs := by
  rw [List.getD_eq_getElem?_getD, List.getElem?_eq_getElem h]; exact List.getElem_mem h
def IndexPost (v : Int) (xs : List Int) (w : World) (e : Ending) (w' : World) : Prop := (∃ x : Int, e = .returned (.int .i64 x) ∧ decide (x ≥ 0) = decide (v ∈ xs)) ∧ w = w'
theorem implIndex (A : Option Addr) (n c b o : Nat) (xs : List Int) (v : Int) (w : World) (h : IA w A n b o xs) :
    Calls Try.prog 88 #[.slice A n c, .int .i64 v] w (IndexPost v xs w) := by
  have hbig := h.big
  have H := Lib.hid h
  clear h
  go_enter Try.func88, Try.ntmps88
  go_wp2_with (fail)
  go_loop [8] (fun i => ∃ k : Nat, k ≤ n ∧ i = .int .i64 k ∧ Hid (∀ j y, j < k → xs[j]? = some y → y ≠ v)) (fun i => n - (intOf i).toNat)
  case atStart => exact ⟨0, by omega, rfl, fun j y h => absurd h (by omega)⟩
  case round =>
    obtain ⟨k, hk, rfl, hz⟩ := hrel
    by_cases hlt : k < n
    · obtain rfl := H.out.adr (by omega)
      obtain ⟨x, hx, hxc⟩ := H.out.cell k hlt
      by_cases he : v = x
      · subst he
        have hb : (v == v) = true := by simp
        have HM := Lib.hid (List.mem_of_getElem? hx)
        clear hx
        go_wp2_with (fail)
        go_ret
        exact ⟨⟨_, rfl, by rw [decide_eq_true HM.out]; simp⟩, rfl⟩
      · have hb : (v == x) = false := by simp [he]
        have HX := Lib.hid hx
        have HE := Lib.hid he
        clear hx he
        go_wp2_with (fail)
        go_round
        case rel => exact ⟨k + 1, by omega, by go_num, fun j y h1 h2 => if e : j = k then by (rw [e, HX.out] at h2; intro e2; exact HE.out (e2 ▸ (Option.some.inj h2).symm)) else hz.out j y (by omega) h2⟩
        case measure => simp [intOf]; omega
    · obtain rfl : k = n := by omega
      go_wp2_with (fail)
      go_ret
      refine ⟨⟨_, rfl, ?_⟩, rfl⟩
      rw [show decide (v ∈ xs) = false from decide_eq_false (fun hm => by
        obtain ⟨j, hj, he⟩ := List.getElem_of_mem hm
        exact hz.out j v (by rw [← H.out.len]; exact hj) (by rw [List.getElem?_eq_getElem hj, he]) rfl)]
      simp
def BoolSame (t : Bool) (w : World) (e : Ending) (w' : World) : Prop := e = .returned (.bool t) ∧ w = w'
theorem implContains (A : Option Addr) (n c b o : Nat) (xs : List Int) (v : Int) (w : World) (h : IA w A n b o xs) :
    Calls Try.prog 63 #[.slice A n c, .int .i64 v] w (BoolSame (decide (v ∈ xs)) w) := by
  have H := Lib.hid h
  clear h
  go_enter Try.func63, Try.ntmps63
  go_wp2_with (fail)
  refine (implIndex A n c b o xs v _ H.out).mono ?_
  rintro e w' ⟨⟨x, rfl, hx⟩, rfl⟩
  go_wp2_with (fail)
  go_ret
  exact ⟨by rw [← hx]; rfl, rfl⟩
end Go.Proofs.Ytdecaokngedghaa
namespace Go.Proofs.Ytdecaokngedghaa
open Go.RowKit
theorem wpList_app_row_at {ops : Array Oper} {rest : List Oper} {o : Oper} {a : Act} {Q : Exit → Act → World → Prop} {w : World} (hgd : o.guard = none) (s x : Operand)
    (ho : o.op = .call { callee := .builtin .append, args := #[s, x], argTypes := #[74, 74] })
    (B : Nat) (A : Option Addr) (n c : Nat) (vs : List Value) (hs : a.eval s = .slice A n c) (hown : w.ownsRow B 23 1 (.slice A n c) n vs) (A1 : Option Addr) (n1 c1 : Nat) (g c2 : Nat) (hx : a.eval x = .slice (some ⟨g, 0, none⟩) 1 c2) (hcell : w.cell? ⟨g, 0, none⟩ = some (.slice A1 n1 c1))
    (hn : n ≤ 1000000000) (hB : B ≤ w.heap.size)
    (h : ∀ (A' : Option Addr) (c' : Nat) (w' : World), w'.ownsRow B 23 1 (.slice A' (n + 1) c') (n + 1) (vs ++ [.slice A1 n1 c1]) → Keep (fun k => (Value.slice A n c).ownBlock = some k) w w' →
      (∀ q, (Value.slice A' (n + 1) c').ownBlock = some q → (Value.slice A n c).ownBlock = some q ∨ q = w.heap.size) → wpList Try.prog ops Q rest (a.put o.dst (.slice A' (n + 1) c')) w') :
    wpList Try.prog ops Q (o :: rest) a w := by
  obtain ⟨i0, hi, hz0, hz1, hz2⟩ := info_parts infoInts
  refine wpList_append_own_at w hgd s x 74 ho B 23 i0 (.slice none 0 0) 1 24 Try.underlying74 hi hz0 hz1 hz2 rfl (by decide) _ n vs hs hown ⟨g, 0, none⟩ 1 c2 [.slice A1 n1 c1] hx rfl ?_ ?_ ?_ ?_ hB ?_
  · intro j u hj
    match j, hj with
    | 0, hj => simp at hj; subst hj; simpa [Addr.add] using hcell
  · intro u hu; simp at hu; subst hu; rfl
  · unfold maxLen; omega
  · omega
  · intro v' w' h2 h3 _ h5
    obtain ⟨A', c', rfl⟩ := owns_shape h2
    refine h A' c' w' h2 (keep_grown h3) fun q hq => ?_
    rcases h5 with h5 | h5
    · exact .inl (h5 ▸ hq)
    · rw [h5] at hq; exact .inr (Option.some.inj hq).symm
/-- a list's first numbers, one more -/
theorem notin_step {hs : List Nat} {k f q : Nat} (hk : k < hs.length) (hq : hs.getD k 0 = q) : decide (f ∉ hs.take (k + 1)) = (decide (f ∉ hs.take k) && ((q : Int) != (f : Int))) := by
  have hg : hs[k]? = some q := by
    rw [← hq, List.getD_eq_getElem?_getD, List.getElem?_eq_getElem hk]; rfl
  rw [List.take_add_one, hg]
  by_cases h1 : f ∈ hs.take k
  · have h2 : f ∈ hs.take k ++ (some q).toList := List.mem_append_left _ h1
    simp [h1]
  · by_cases h2 : q = f
    · subst h2; simp
    · have h3 : ((q : Int) != (f : Int)) = true := neInt h2
      have h4 : f ∉ hs.take k ++ (some q).toList := by simp [h1]; omega
      rw [decide_eq_true h4, decide_eq_true h1, h3]; rfl
theorem kerM_rows (p : Int) (F : List (List Int)) (hs : List Nat) (l : Nat) : ∀ c, ∀ row ∈ kerM p F hs l c, row.length = l
  | 0 => by intro row h; simp [kerM] at h
  | c + 1 => by
    intro row h
    by_cases hc : c ∈ hs
    · rw [kerM_stay hc] at h; exact kerM_rows p F hs l c row h
    · rw [kerM_go hc] at h
      rcases List.mem_append.1 h with h | h
      · exact kerM_rows p F hs l c row h
      · simp at h; rw [h]; exact kerFill_len _ _ _ _ _ _
theorem kernelR_tot (p : Int) (M : List (List Int)) : tot (kernelR p M) ≤ 64 := by
  rcases h : matB p M
  · rw [kernelR_no h]; simp [tot]
  · rw [kernelR_yes h]
    obtain ⟨h1, h2, h3, h4, _⟩ := matB_true h
    obtain ⟨l0, hl0⟩ : ∃ l0, (M.headD []).length = l0 := ⟨_, rfl⟩
    rw [hl0] at h4 ⊢
    have ht := tot_rows (kerM p (elim p M l0).1 (elim p M l0).2 l0 l0) 8 (fun row hr => by rw [kerM_rows _ _ _ _ _ row hr]; omega)
    have hl := kerM_len_le p (elim p M l0).1 (elim p M l0).2 l0 l0
    omega
end Go.Proofs.Ytdecaokngedghaa
namespace Go.Proofs.Ytdecaokngedghaa
open Go.RowKit
def widenM (M : List (List Int)) (want : List Int) : List (List Int) := List.zipWith (fun r x => r ++ [x]) M want
def solFill (F : List (List Int)) (hs : List Nat) (l : Nat) : Nat → List Int
  | 0 => List.replicate l 0
  | k + 1 => (solFill F hs l k).set (hs.getD k 0) (at2 F k l)
def okS (p : Int) (M : List (List Int)) (want : List Int) : Bool := matB p M && (decide (want.length = M.length) && rowB p want)
def solveW (p : Int) (W : List (List Int)) (l : Nat) : Option (List Int) :=
  match firstW (elim p W l).1 l ((elim p W l).1.length - (elim p W l).2.length) (elim p W l).2.length with
  | none => some (solFill (elim p W l).1 (elim p W l).2 l (elim p W l).2.length)
  | some _ => none
def solveR (p : Int) (M : List (List Int)) (want : List Int) : Option (List Int) := if okS p M want = true then solveW p (widenM M want) (M.headD []).length else none
theorem solFill_len (F : List (List Int)) (hs : List Nat) (l : Nat) : ∀ k, (solFill F hs l k).length = l
  | 0 => by simp [solFill]
  | k + 1 => by simp [solFill, solFill_len F hs l k]
theorem widenM_len {M : List (List Int)} {want : List Int} (h : want.length = M.length) : (widenM M want).length = M.length := by simp [widenM, h]
theorem widenM_get {M : List (List Int)} {want : List Int} {k : Nat} {row : List Int} {x : Int} (hr : M[k]? = some row) (hx : want[k]? = some x) : (widenM M want)[k]? = some (row ++ [x]) := by
  simp [widenM, List.getElem?_zipWith, hr, hx]
theorem VM.widen {p : Int} {l : Nat} {M : List (List Int)} {want : List Int} (h : VM p l M) (hw : ∀ x ∈ want, numB p x = true) : VM p (l + 1) (widenM M want) := by
  intro row hr
  obtain ⟨k, hk, rfl⟩ := List.getElem_of_mem hr
  simp only [widenM, List.getElem_zipWith]
  have h1 : k < M.length := by simp [widenM] at hk; omega
  have h2 : k < want.length := by simp [widenM] at hk; omega
  obtain ⟨g1, g2⟩ := h M[k] (List.getElem_mem h1)
  refine ⟨by simp [g1], fun x hx => ?_⟩
  rcases List.mem_append.1 hx with hx | hx
  · exact g2 x hx
  · simp at hx; rw [hx]; exact hw _ (List.getElem_mem h2)
/-- the answer of MatSolve: a row, and whether there is one -/
def MadeS (R : Option (List Int)) (w : World) (e : Ending) (w' : World) : Prop :=
  ∃ (A : Option Addr) (c : Nat), e = .returned (.tuple #[.slice A (R.getD []).length c, .bool R.isSome]) ∧ OI w' w.heap.size A (R.getD []).length c (R.getD []) ∧ Below w.heap.size w w'
theorem MadeS.nil {w w' : World} (hb : Below w.heap.size w w') : MadeS none w (.returned (.tuple #[.slice none 0 0, .bool false])) w' := ⟨none, 0, rfl, World.ownsRow_nil _ _ _ _, hb⟩
theorem solveR_no {p : Int} {M : List (List Int)} {want : List Int} (h : okS p M want = false) : solveR p M want = none := by unfold solveR; rw [if_neg (by simp [h])]
theorem solveR_yes {p : Int} {M : List (List Int)} {want : List Int} (h : okS p M want = true) : solveR p M want = solveW p (widenM M want) (M.headD []).length := by unfold solveR; rw [if_pos h]
theorem solveW_yes {p : Int} {W : List (List Int)} {l : Nat} (h : firstW (elim p W l).1 l ((elim p W l).1.length - (elim p W l).2.length) (elim p W l).2.length = none) : solveW p W l = some (solFill (elim p W l).1 (elim p W l).2 l (elim p W l).2.length) := by unfold solveW; rw [h]
theorem solveW_no {p : Int} {W : List (List Int)} {l r : Nat} (h : firstW (elim p W l).1 l ((elim p W l).1.length - (elim p W l).2.length) (elim p W l).2.length = some r) : solveW p W l = none := by unfold solveW; rw [h]
/-- copy of a shorter slice to the beginning of one of the call's own -/
theorem wpList_cpy2 {ops : Array Oper} {rest : List Oper} {o : Oper} {a : Act} {Q : Exit → Act → World → Prop} {w : World} (hgd : o.guard = none) (d s : Operand)
    (ho : o.op = .call { callee := .builtin .copy, args := #[d, s], argTypes := #[23, 23] })
    (B g n c : Nat) (xs : List Int) (hd : a.eval d = .slice (some ⟨g, 0, none⟩) n c) (hown : OI w B (some ⟨g, 0, none⟩) n c xs) (m c1 b1 o1 : Nat) (hmn : m ≤ n) (ys : List Int) (hs : a.eval s = .slice (some ⟨b1, o1, none⟩) m c1) (hsrc : IA w (some ⟨b1, o1, none⟩) m b1 o1 ys)
    (h : ∀ w' v, OI w' B (some ⟨g, 0, none⟩) n c (ys ++ xs.drop m) → Keep (· = g) w w' → wpList Try.prog ops Q rest (a.put o.dst v) w') :
    wpList Try.prog ops Q (o :: rest) a w := by
  have hys := hsrc.len
  have hxl := hown.len
  rcases hown.2 with ⟨h1, _⟩ | ⟨g', cap, cur, hv, hb, hg, hnc, hcm, hcs, htk⟩
  · simp at h1
  · simp only [Value.slice.injEq, Option.some.injEq, Addr.mk.injEq, and_true, true_and] at hv
    obtain ⟨rfl, rfl⟩ := hv
    have hcl : cur.toList.length = cur.size := by simp
    refine wpList_copy_own hgd d s 23 23 ho 3 Try.underlying23 infoSize g 0 n c ⟨b1, o1, none⟩ m c1 hd hs cur 3 hg (ints ys) (by rw [ints_len, hys]; exact (Nat.min_eq_left hmn).symm) hsrc.src (by rw [ints_len, hys]; omega) (ints_one ys) ?_
    refine h _ _ ⟨by rw [ints_len, List.length_append, List.length_drop, hys, hxl]; omega, .inr ⟨g, c, _, rfl, hb, setRow_heap w g _ _ 3 _ hg, hnc, hcm, ?_, ?_⟩⟩ ⟨rfl, rfl, rfl, by simp [World.setRow], fun k _ hk => setRow_other w g k _ hk⟩
    · simp [ints_len, hys]; omega
    · simp only [Nat.mul_one] at htk ⊢
      simp only [List.take_zero, List.nil_append, ints_len, hys, Nat.zero_add]
      rw [List.take_append, ints_len, hys, List.take_of_length_le (by rw [ints_len, hys]; exact hmn)]
      rw [← List.drop_take, htk]
      simp [ints]
end Go.Proofs.Ytdecaokngedghaa
namespace Go.Proofs.Ytdecaokngedghaa
open Go.RowKit
theorem IA.nil (w : World) (A : Option Addr) (b o : Nat) : IA w A 0 b o [] := ⟨rfl, by omega, by omega, by omega⟩
/-- what the model's MatSolve answers -/
def GivesS (R : Option (List Int)) (w : World) (e : Ending) (w' : World) : Prop :=
  ∃ (A : Option Addr) (c b o : Nat), e = .returned (.tuple #[.slice A (R.getD []).length c, .bool R.isSome]) ∧ IA w' A (R.getD []).length b o (R.getD []) ∧ Below w.heap.size w w'
theorem GivesS.nil {w w' : World} (hb : Below w.heap.size w w') : GivesS none w (.returned (.tuple #[.slice (some ⟨w'.heap.size, 0, none⟩) 0 0, .bool false])) (w'.alloc (.cells #[] 3)) :=
  ⟨_, 0, w'.heap.size, 0, rfl, IA.nil _ _ _ _, hb.alloc hb.size _⟩
section
variable {w w0 : World} {ops : Array Oper} {o : Oper} {a : Act} {K : Act → World → Prop} {Q : Exit → Act → World → Prop} {E : Prop}
/-- at a step of a region that draws its order: append of integers to a slice of the call's own -/
theorem step_app_ints (hgd : o.guard = none) (s x : Operand) (ho : o.op = .call { callee := .builtin .append, args := #[s, x], argTypes := #[23, 23] })
    (B : Nat) (A : Option Addr) (n c : Nat) (xs : List Int) (hs : a.eval s = .slice A n c) (hown : OI w B A n c xs) (m c1 b1 o1 : Nat) (ys : List Int) (hx : a.eval x = .slice (some ⟨b1, o1, none⟩) m c1) (hsrc : IA w (some ⟨b1, o1, none⟩) m b1 o1 ys)
    (hm : 0 < m) (hn : n + m ≤ 1000000000) (hb : Below w0.heap.size w0 w) (hB : w0.heap.size = B) (nm : Nat) (hnm : n + m = nm) (zs : List Int) (hzs : xs ++ ys = zs)
    (h : ∀ (A' : Option Addr) (c' : Nat) (w' : World), OI w' B A' nm c' zs → Below w0.heap.size w0 w' → Keep (fun k => (Value.slice A n c).ownBlock = some k) w w' → K (a.put o.dst (.slice A' nm c')) w') :
    if Region.wanted o (yielded ops a.tmps) = true then Oper.wp Try.prog o a w K Q else E := by
  subst hB hnm hzs
  have hys := hsrc.len
  have hbs := hb.size
  obtain ⟨i0, hi, hz0, hz1, hz2⟩ := info_parts infoInt
  refine step_append_lies w hgd s x 23 ho w0.heap.size 3 i0 (.int .i64 0) 1 8 Try.underlying23 hi hz0 hz1 hz2 rfl (by decide) _ n (ints xs) hs hown ⟨b1, o1, none⟩ m c1 (ints ys) hx (by rw [ints_len, hys]; omega) hsrc.src (ints_one ys) hm (by unfold maxLen; omega) (by omega) hbs _ rfl ?_
  intro g cap w' h2 h3 h4 _
  have hk := keep_grown h3
  refine h (some ⟨g, 0, none⟩) cap w' (by unfold OI; simpa [ints] using h2) (hb.trans (hk.below hbs (fun q hq => (hown.lt q hq).1))) hk
/-- append of one slice of integers to a slice of such slices -/
theorem step_app_row (hgd : o.guard = none) (s x : Operand) (ho : o.op = .call { callee := .builtin .append, args := #[s, x], argTypes := #[74, 74] })
    (B : Nat) (A : Option Addr) (n c : Nat) (vs : List Value) (hs : a.eval s = .slice A n c) (hown : w.ownsRow B 23 1 (.slice A n c) n vs) (A1 : Option Addr) (n1 c1 : Nat) (g c2 : Nat) (hx : a.eval x = .slice (some ⟨g, 0, none⟩) 1 c2) (hcell : w.cell? ⟨g, 0, none⟩ = some (.slice A1 n1 c1))
    (hn : n ≤ 1000000000) (hB : B ≤ w.heap.size)
    (h : ∀ (A' : Option Addr) (c' : Nat) (w' : World), w'.ownsRow B 23 1 (.slice A' (n + 1) c') (n + 1) (vs ++ [.slice A1 n1 c1]) → Keep (fun k => (Value.slice A n c).ownBlock = some k) w w' → K (a.put o.dst (.slice A' (n + 1) c')) w') :
    if Region.wanted o (yielded ops a.tmps) = true then Oper.wp Try.prog o a w K Q else E := by
  obtain ⟨i0, hi, hz0, hz1, hz2⟩ := info_parts infoInts
  refine step_append_lies w hgd s x 74 ho B 23 i0 (.slice none 0 0) 1 24 Try.underlying74 hi hz0 hz1 hz2 rfl (by decide) _ n vs hs hown ⟨g, 0, none⟩ 1 c2 [.slice A1 n1 c1] hx rfl ?_ ?_ (by omega) ?_ (by omega) hB _ rfl ?_
  · intro j u hj
    match j, hj with
    | 0, hj => simp at hj; subst hj; simpa [Addr.add] using hcell
  · intro u hu; simp at hu; subst hu; rfl
  · unfold maxLen; omega
  · intro g' cap w' h2 h3 _ _
    exact h _ _ w' h2 (keep_grown h3)
end
theorem OI.emptyAt {w : World} {B g : Nat} (hg : g = w.heap.size) (hB : B ≤ g) : OI (w.alloc (.cells #[] 3)) B (some ⟨g, 0, none⟩) 0 0 [] := by
  subst hg; exact owns_mono (OI.empty w) hB
theorem OI.drewU {w : World} {B n c : Nat} {A : Option Addr} {xs : List Int} (h : OI w B A n c xs) : OI w.drew B A n c xs := owns_keep h (drewN_keep (S := fun _ => False) w 1) (fun _ _ h => h)
theorem IA.alloc {w : World} {n b o : Nat} {A : Option Addr} {xs : List Int} (h : IA w A n b o xs) (ob : Obj) : IA (w.alloc ob) A n b o xs := h.below ((Below.refl _ _).alloc (Nat.le_refl _) ob)
theorem IA.drewU {w : World} {n b o : Nat} {A : Option Addr} {xs : List Int} (h : IA w A n b o xs) : IA w.drew A n b o xs := h.drewN ⟨1, rfl⟩
theorem IA.freshAt {w : World} {g : Nat} (hg : g = w.heap.size) (x : Int) : IA (w.alloc (.cells #[.int .i64 x] 3)) (some ⟨g, 0, none⟩) 1 g 0 [x] := by
  subst hg
  refine ⟨rfl, fun _ => rfl, by omega, fun i hi => ?_⟩
  obtain rfl : i = 0 := by omega
  exact ⟨x, rfl, by simp⟩
theorem owns_drewU {w : World} {B e size n : Nat} {v : Value} {xs : List Value} (h : w.ownsRow B e size v n xs) : w.drew.ownsRow B e size v n xs := owns_keep h (drewN_keep (S := fun _ => False) w 1) (fun _ _ h => h)
theorem Below.drewU {B : Nat} {w0 w : World} (h : Below B w0 w) : Below B w0 w.drew := below_drawn h ⟨1, rfl⟩
/-- with the last column taken, too, a chosen row that begins there tells that there is no solution -/
theorem solve_none {p : Int} {W : List (List Int)} {l q : Nat} (hq : q < (elim p W (l + 1)).2.length) (h : (elim p W (l + 1)).2.getD q 0 = l) : solveW p W l = none := by
  rcases hf : firstW (elim p W l).1 l ((elim p W l).1.length - (elim p W l).2.length) (elim p W l).2.length with _ | r
  · have hs := elim_stay hf
    rw [hs] at h hq
    have := elim_heads p W l _ (getD_mem_nat hq)
    omega
  · exact solveW_no hf
theorem solve_some {p : Int} {W : List (List Int)} {l : Nat} (h : ∀ q, q < (elim p W (l + 1)).2.length → (elim p W (l + 1)).2.getD q 0 ≠ l) : solveW p W l = some (solFill (elim p W (l + 1)).1 (elim p W (l + 1)).2 l (elim p W (l + 1)).2.length) := by
  rcases hf : firstW (elim p W l).1 l ((elim p W l).1.length - (elim p W l).2.length) (elim p W l).2.length with _ | r
  · rw [elim_stay hf]; exact solveW_yes hf
  · exfalso
    have hg := elim_go (r := r) hf
    refine h (elim p W l).2.length (by rw [hg]; simp) ?_
    rw [hg]; simp [List.getD_eq_getElem?_getD]
theorem OI.below {w w' : World} {B n c : Nat} {A : Option Addr} {xs : List Int} (h : OI w B A n c xs) (k : Below w.heap.size w w') : OI w' B A n c xs := owns_below h k
theorem OI.keepS {w w' : World} {B n c : Nat} {A : Option Addr} {xs : List Int} {S : Nat → Prop} (h : OI w B A n c xs) (k : Keep S w w') (hs : ∀ g, (Value.slice A n c).ownBlock = some g → ¬ S g) : OI w' B A n c xs := owns_keep h k hs
theorem solveR_bd (p : Int) (M : List (List Int)) (want : List Int) : ((solveR p M want).getD []).length ≤ 1048576 := by
  unfold solveR
  split
  · rename_i h
    unfold okS at h
    rw [Bool.and_eq_true] at h
    obtain ⟨h1, h2, h3, h4, _⟩ := matB_true h.1
    unfold solveW
    split
    · simp only [Option.getD_some, solFill_len]; omega
    · simp
  · simp
end Go.Proofs.Ytdecaokngedghaa
