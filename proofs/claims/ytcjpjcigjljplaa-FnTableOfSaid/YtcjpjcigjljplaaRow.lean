/-
  The contracts of the functions that look into rows and change one row: firstRowWith, negative, multiplyRow, takeRow.
-/
import Derived.Test.YtcjpjcigjljplaaTimesS
import Derived.Test.YtcjpjcigjljplaaElim
namespace Go.Proofs.Ytcjpjcigjljplaa
open Go.RowKit
theorem at2_of {M : List (List Int)} {i j : Nat} {row : List Int} {x : Int} (hr : M[i]? = some row) (hx : row[j]? = some x) : at2 M i j = x := by
  simp [at2, List.getD_eq_getElem?_getD, hr, hx]
/-- what firstRowWith answers: the first row from a given one on that is not 0 in the column; -1 if there is none -/
def FirstI (M : List (List Int)) (col : Nat) (from_ : Nat) (x : Int) : Prop :=
  (x = -1 ∧ firstW M col (M.length - from_) from_ = none) ∨ ∃ r : Nat, x = r ∧ r < M.length ∧ firstW M col (M.length - from_) from_ = some r
def FirstPost (Q : Int → Prop) (w : World) (e : Ending) (w' : World) : Prop := ∃ x : Int, e = .returned (.int .i64 x) ∧ Q x ∧ w = w'
theorem firstRowWith_any (A : Option Addr) (n c b o : Nat) (M : List (List Int)) (col fr : Nat) (w : World) (h : RA w A n b o M) (hl : ∀ row ∈ M, col < row.length) (hf : fr ≤ n) (hcol : col ≤ 1000) :
    Calls Try.prog 82 #[.slice A n c, .int .i64 (col : Int), .int .i64 (fr : Int)] w (FirstPost (FirstI M col fr) w) := by
  have hbig := h.big
  have H := Lib.hid h
  have HL := Lib.hid hl
  clear h hl
  go_enter Try.func82, Try.ntmps82
  go_wp2_with (fail)
  go_loop [7] (fun i => ∃ k : Nat, fr ≤ k ∧ k ≤ n ∧ i = .int .i64 k ∧ Hid (∀ j, fr ≤ j → j < k → at2 M j col = 0)) (fun i => n - (intOf i).toNat)
  case atStart => exact ⟨fr, Nat.le_refl _, hf, rfl, fun j h1 h2 => absurd h2 (by omega)⟩
  case round =>
    obtain ⟨k, hk0, hk, rfl, hz⟩ := hrel
    by_cases hlt : k < n
    · obtain rfl := H.out.adr (by omega)
      obtain ⟨row, A1, c1, b1, o1, hr, hc, hI⟩ := H.out.row k hlt
      have hcl := HL.out row (List.mem_of_getElem? hr)
      have hbig1 := hI.big
      obtain ⟨x, hx, hxc⟩ := hI.cell col hcl
      obtain rfl := hI.adr (by omega)
      have HA := Lib.hid (at2_of hr hx)
      clear hr hx hI
      by_cases hx0 : x = 0
      · have hb : (x != 0) = false := by simp [hx0]
        have HX := Lib.hid hx0
        clear hx0
        go_wp2_with (fail)
        go_round
        case rel => exact ⟨k + 1, by omega, by omega, by go_num, fun j h1 h2 => if e : j = k then by rw [e, HA.out, HX.out] else hz.out j h1 (by omega)⟩
        case measure => simp [intOf]; omega
      · have hb : (x != 0) = true := by simp [hx0]
        have HX := Lib.hid hx0
        clear hx0
        go_wp2_with (fail)
        go_ret
        exact ⟨_, rfl, .inr ⟨k, rfl, by rw [H.out.len]; omega, firstW_is hk0 (by rw [H.out.len]; omega) (by rw [HA.out]; exact HX.out) hz.out⟩, rfl⟩
    · go_wp2_with (fail)
      go_ret
      exact ⟨_, rfl, .inl ⟨rfl, firstW_not (fun j h1 h2 => hz.out j h1 (by rw [H.out.len] at h2; omega))⟩, rfl⟩
theorem negative_any (p a : Int) (w : World) (hp : 2 ≤ p) (hp' : p ≤ 13) (ha : 0 ≤ a) (ha' : a < p) :
    Calls Try.prog 83 #[.int .i64 p, .int .i64 a] w fun e w' => e = .returned (.int .i64 ((p - a) % p)) ∧ w = w' := by
  go_enter Try.func83, Try.ntmps83
  go_wp2_with (fail)
  go_ret
  exact ⟨rfl, rfl⟩
/-- a row that is changed from its beginning on, as far as it is -/
theorem mix_set {xs ys : List Int} {k : Nat} {y : Int} (hl : ys.length = xs.length) (hy : ys[k]? = some y) : (ys.take k ++ xs.drop k).set k y = ys.take (k + 1) ++ xs.drop (k + 1) := set_step ys xs k y hl hy
def RowPost (B n c : Nat) (A : Option Addr) (ys : List Int) (w : World) (e : Ending) (w' : World) : Prop :=
  e = .returned (.tuple #[]) ∧ OI w' B A n c ys ∧ Keep (fun g => (Value.slice A n c).ownBlock = some g) w w'
theorem scaleRow_get {p t : Int} {row : List Int} {k : Nat} {x : Int} (h : row[k]? = some x) : (scaleRow p t row)[k]? = some (x * t % p) := by simp [scaleRow, h]
theorem multiplyRow_any (p t : Int) (B : Nat) (A : Option Addr) (n c : Nat) (xs : List Int) (w : World) (h : OI w B A n c xs) (ht : numB p t = true) (hx : ∀ x ∈ xs, numB p x = true) (hn : n ≤ 1000) :
    Calls Try.prog 98 #[.int .i64 p, .slice A n c, .int .i64 t] w (RowPost B n c A (scaleRow p t xs) w) := by
  have htb := numB_bd ht
  have hlen := h.len
  have hadr := h.adr
  have H := Lib.hid h
  have HX := Lib.hid hx
  have HL := Lib.hid hlen
  have HA := Lib.hid hadr
  clear h hlen hadr hx ht
  go_enter Try.func98, Try.ntmps98
  go_wp2_with (fail)
  go_loopw [9] (fun i wr => ∃ j : Nat, j ≤ n ∧ i = .int .i64 j ∧ OI wr B A n c ((scaleRow p t xs).take j ++ xs.drop j) ∧ Keep (fun g => (Value.slice A n c).ownBlock = some g) w wr) (fun i _ => n - (intOf i).toNat)
  case atStart => exact ⟨0, by omega, rfl, by simpa using H.out, Keep.refl _ _⟩
  case round =>
    obtain ⟨j, hj, rfl, hown, hkeep⟩ := hrel
    by_cases hlt : j < n
    · obtain ⟨g, hg, hBg⟩ : ∃ g, A = some ⟨g, 0, none⟩ ∧ B ≤ g := by
        rcases HA.out with ⟨_, h0, _⟩ | ⟨g, h1, h2, _⟩
        · omega
        · exact ⟨g, h1, h2⟩
      subst hg
      have hl := HL.out
      have hxj : xs[j]? = some (xs[j]'(by omega)) := List.getElem?_eq_getElem (by omega)
      obtain ⟨x, hxx⟩ : ∃ x, xs[j]'(by omega) = x := ⟨_, rfl⟩
      rw [hxx] at hxj
      have hxb := numB_bd (HX.out x (List.mem_of_getElem? hxj))
      have hm := mul_bd hxb.1 (by omega) htb.1 (by omega)
      have hcell := World.ownsRow.cellAt hown j (by omega)
      have hmx : (ints ((scaleRow p t xs).take j ++ xs.drop j))[j]? = some (.int .i64 x) := by
        unfold ints; rw [List.getElem?_map, mix_get _ _ _ (scaleRow_len p t xs) (by rw [scaleRow_len]; omega), hxj]; rfl
      rw [hmx] at hcell
      have hfr := World.ownsRow.frozenAt hown j
      have hst := World.ownsRow.stored hown j (.int .i64 (x * t % p))
      rw [ints_set, mix_set (scaleRow_len p t xs) (scaleRow_get hxj)] at hst
      have HO := Lib.hid hst.1
      have HK := Lib.hid (hkeep.trans ((setCell_keep wr ⟨g, j, none⟩ (.int .i64 (x * t % p))).mono (fun q _ hq => by rw [hq]; rfl)))
      clear hmx hst hown hkeep hl hxj hxx
      go_wp2_with (fail)
      go_roundw
      case rel => exact ⟨j + 1, by omega, by go_num, HO.out, HK.out⟩
      case measure => simp [intOf]; omega
    · obtain rfl : j = n := by omega
      have e : (scaleRow p t xs).take j ++ xs.drop j = scaleRow p t xs := by
        rw [List.take_of_length_le (by rw [scaleRow_len, HL.out]; omega), List.drop_of_length_le (by rw [HL.out]; omega)]; simp
      rw [e] at hown
      have HO := Lib.hid hown
      clear e hown
      go_wp2_with (fail)
      go_end0
      exact ⟨rfl, HO.out, hkeep⟩
theorem IA.keepb {w w' : World} {A : Option Addr} {n b o : Nat} {xs : List Int} {S : Nat → Prop} (h : IA w A n b o xs) (k : Keep S w w') (hs : 0 < n → ¬ S b) : IA w' A n b o xs :=
  ⟨h.len, h.adr, h.big, fun i hi => let ⟨x, h1, h2⟩ := h.cell i hi; ⟨x, h1, k.cell h2 (hs (by omega))⟩⟩
theorem subRow_get {p t : Int} {row taken : List Int} {k : Nat} {x y : Int} (hx : row[k]? = some x) (hy : taken[k]? = some y) : (subRow p t row taken)[k]? = some ((x - t * y) % p) := by simp [subRow, List.getElem?_zipWith, hx, hy]
theorem sub_mod (p x t y : Int) : (x + (p - t) % p * y) % p = (x - t * y) % p := by
  rw [Int.add_emod, Int.mul_emod, Int.emod_emod, ← Int.mul_emod, ← Int.add_emod]
  have e : x + (p - t) * y = (x - t * y) + p * y := by rw [Int.sub_mul]; omega
  rw [e, Int.add_mul_emod_self_left]
theorem negative_is {p a u : Int} (h : (p - a) % p = u) (w : World) (hp : 2 ≤ p) (hp' : p ≤ 13) (ha : 0 ≤ a) (ha' : a < p) :
    Calls Try.prog 83 #[.int .i64 p, .int .i64 a] w fun e w' => e = .returned (.int .i64 u) ∧ w = w' := by subst h; exact negative_any p a w hp hp' ha ha'
set_option maxHeartbeats 400000 in
theorem takeRow_any (p t : Int) (B : Nat) (A : Option Addr) (n c : Nat) (xs : List Int) (A' : Option Addr) (c' b' o' : Nat) (ys : List Int) (w : World) (h : OI w B A n c xs) (h' : IA w A' n b' o' ys) (hne : ∀ g, (Value.slice A n c).ownBlock = some g → b' ≠ g)
    (ht : numB p t = true) (hx : ∀ x ∈ xs, numB p x = true) (hy : ∀ y ∈ ys, numB p y = true) (hn : n ≤ 1000) :
    Calls Try.prog 85 #[.int .i64 p, .slice A n c, .slice A' n c', .int .i64 t] w (RowPost B n c A (subRow p t xs ys) w) := by
  have htb := numB_bd ht
  have hlen := h.len
  have hadr := h.adr
  have hsl : (subRow p t xs ys).length = xs.length := subRow_len _ _ _ _ (by rw [hlen, h'.len])
  have hneg0 : 0 ≤ (p - t) % p := Int.emod_nonneg _ (by omega)
  have hneg1 : (p - t) % p < p := Int.emod_lt_of_pos _ (by omega)
  obtain ⟨u, hu⟩ : ∃ u, (p - t) % p = u := ⟨_, rfl⟩
  rw [hu] at hneg0 hneg1
  have HU := Lib.hid hu
  clear hu
  have H := Lib.hid h
  have H' := Lib.hid h'
  have HX := Lib.hid hx
  have HY := Lib.hid hy
  have HL := Lib.hid hlen
  have HA := Lib.hid hadr
  have HNE := Lib.hid hne
  have HSL := Lib.hid hsl
  clear h hlen hadr hx ht h' hy hne hsl
  go_enter Try.func85, Try.ntmps85
  go_wp2_with (fail)
  go_loopw [11] (fun i wr => ∃ j : Nat, j ≤ n ∧ i = .int .i64 j ∧ OI wr B A n c ((subRow p t xs ys).take j ++ xs.drop j) ∧ Keep (fun g => (Value.slice A n c).ownBlock = some g) w wr) (fun i _ => n - (intOf i).toNat)
  case atStart => exact ⟨0, by omega, rfl, by simpa using H.out, Keep.refl _ _⟩
  case round =>
    obtain ⟨j, hj, rfl, hown, hkeep⟩ := hrel
    by_cases hlt : j < n
    · obtain ⟨g, hg, hBg⟩ : ∃ g, A = some ⟨g, 0, none⟩ ∧ B ≤ g := by
        rcases HA.out with ⟨_, h0, _⟩ | ⟨g, h1, h2, _⟩
        · omega
        · exact ⟨g, h1, h2⟩
      subst hg
      have hl := HL.out
      have hxj : xs[j]? = some (xs[j]'(by omega)) := List.getElem?_eq_getElem (by omega)
      obtain ⟨x, hxx⟩ : ∃ x, xs[j]'(by omega) = x := ⟨_, rfl⟩
      rw [hxx] at hxj
      have hbg : b' ≠ g := HNE.out g rfl
      obtain ⟨y, hy, hyc⟩ := (H'.out.keepb hkeep (fun _ hs => by simp [Value.ownBlock] at hs; omega)).cell j hlt
      obtain rfl := H'.out.adr (by omega)
      have hxb := numB_bd (HX.out x (List.mem_of_getElem? hxj))
      have hyb := numB_bd (HY.out y (List.mem_of_getElem? hy))
      have hm := mul_bd hneg0 (by omega) hyb.1 (by omega)
      have hcell := World.ownsRow.cellAt hown j (by omega)
      have hmx : (ints ((subRow p t xs ys).take j ++ xs.drop j))[j]? = some (.int .i64 x) := by
        unfold ints; rw [List.getElem?_map, mix_get _ _ _ HSL.out (by rw [HSL.out]; omega), hxj]; rfl
      rw [hmx] at hcell
      have hfr := World.ownsRow.frozenAt hown j
      have hst := World.ownsRow.stored hown j (.int .i64 ((x + u * y) % p))
      rw [show (x + u * y) % p = (x - t * y) % p by rw [← HU.out]; exact sub_mod p x t y, ints_set, mix_set HSL.out (subRow_get hxj hy), show (x - t * y) % p = (x + u * y) % p by rw [← HU.out]; exact (sub_mod p x t y).symm] at hst
      have HO := Lib.hid hst.1
      have HK := Lib.hid (hkeep.trans ((setCell_keep wr ⟨g, j, none⟩ (.int .i64 ((x + u * y) % p))).mono (fun q _ hq => by rw [hq]; rfl)))
      clear hmx hst hown hkeep hl hxj hxx hy
      go_wp2_with (fail)
      refine wp_quiet_tail 18 (by kernel_rfl) (by kernel_rfl) ?_
      simp only [List.take_succ_cons, List.take_zero, List.drop_succ_cons, List.drop_zero]
      repeat (go_big_quiet_step ((go_at_call 83; exact quiet_same (negative_is HU.out _ htb.2.2.1 htb.2.2.2 htb.1 htb.2.1))))
      refine wpQuiet_nil ?_
      intro _ hw'
      obtain ⟨nq, hw''⟩ := hw'
      subst hw''
      go_wp2_with (fail)
      go_roundw
      case rel => exact ⟨j + 1, by omega, by go_num, owns_keep HO.out (drewN_keep (S := fun _ => False) _ _) (fun _ _ h => h), HK.out.drewN _⟩
      case measure => simp [intOf]; omega
    · obtain rfl : j = n := by omega
      have e : (subRow p t xs ys).take j ++ xs.drop j = subRow p t xs ys := by
        rw [List.take_of_length_le (by rw [HSL.out, HL.out]; omega), List.drop_of_length_le (by rw [HL.out]; omega)]; simp
      rw [e] at hown
      have HO := Lib.hid hown
      clear e hown
      go_wp2_with (fail)
      go_end0
      exact ⟨rfl, HO.out, hkeep⟩
end Go.Proofs.Ytcjpjcigjljplaa
