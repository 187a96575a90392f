/-
  The contracts of the exact laws' helpers that write numbers into a slice of the law's own, and look whether they are held there.
-/
import Derived.Test.YtegkmolffemkpaaEq
namespace Go.Proofs.Ytegkmolffemkpaa
open Go.RowKit
def seqI (k : Int) (n : Nat) : List Int := (List.range n).map fun (i : Nat) => k + (i : Int)
def tot : List (List Int) → Nat
  | [] => 0
  | r :: M => r.length + tot M
def seqM : Int → List (List Int) → List (List Int)
  | _, [] => []
  | k, r :: M => seqI k r.length :: seqM (k + (r.length : Int)) M
theorem seqI_len (k : Int) (n : Nat) : (seqI k n).length = n := by simp [seqI]
theorem seqI_get (k : Int) (n i : Nat) (h : i < n) : (seqI k n)[i]? = some (k + (i : Int)) := by simp [seqI, h]
theorem seqM_len : ∀ (k : Int) (M : List (List Int)), (seqM k M).length = M.length
  | _, [] => rfl
  | k, r :: M => by simp [seqM, seqM_len _ M]
theorem tot_take : ∀ (M : List (List Int)) (r : Nat) (row : List Int), M[r]? = some row → tot (M.take (r + 1)) = tot (M.take r) + row.length
  | [], r, row, h => by simp at h
  | x :: M, 0, row, h => by simp at h; subst h; simp [tot]
  | x :: M, r + 1, row, h => by
    have := tot_take M r row (by simpa using h)
    simp only [List.take_succ_cons, tot]; omega
theorem tot_take_le : ∀ (M : List (List Int)) (r : Nat), tot (M.take r) ≤ tot M
  | [], r => by simp [tot]
  | x :: M, 0 => by simp [tot]
  | x :: M, r + 1 => by have := tot_take_le M r; simp only [List.take_succ_cons, tot]; omega
theorem seqM_get : ∀ (M : List (List Int)) (k : Int) (r : Nat) (row : List Int), M[r]? = some row → (seqM k M)[r]? = some (seqI (k + (tot (M.take r) : Int)) row.length)
  | [], k, r, row, h => by simp at h
  | x :: M, k, 0, row, h => by simp at h; subst h; simp [seqM, tot]
  | x :: M, k, r + 1, row, h => by
    have := seqM_get M (k + (x.length : Int)) r row (by simpa using h)
    simp only [seqM, List.getElem?_cons_succ, List.take_succ_cons, tot]
    rw [this]; congr 2; omega
theorem set_step {α : Type} (xs ys : List α) (k : Nat) (x : α) (hl : xs.length = ys.length) (hx : xs[k]? = some x) : (xs.take k ++ ys.drop k).set k x = xs.take (k + 1) ++ ys.drop (k + 1) := by
  have hk : k < xs.length := (List.getElem?_eq_some_iff.1 hx).1
  have hlen : (xs.take k).length = k := by simp; omega
  have hd : ys.drop k = ys[k]'(by omega) :: ys.drop (k + 1) := List.drop_eq_getElem_cons (by omega)
  rw [List.set_append_right _ _ (by omega), hlen, Nat.sub_self, List.take_add_one, hx, hd, List.set_cons_zero]
  simp
theorem mix_get {α : Type} (xs ys : List α) (k : Nat) (hl : xs.length = ys.length) (hk : k < xs.length) : (xs.take k ++ ys.drop k)[k]? = ys[k]? := by
  have hlen : (xs.take k).length = k := by simp; omega
  rw [List.getElem?_append_right (by omega), hlen, Nat.sub_self]
  simp
theorem tot_rows : ∀ (M : List (List Int)) (b : Nat), (∀ row ∈ M, row.length ≤ b) → tot M ≤ M.length * b
  | [], b, _ => by simp [tot]
  | r :: M, b, h => by
    have h1 := h r (by simp)
    have h2 := tot_rows M b (fun row hr => h row (by simp [hr]))
    simp only [tot, List.length_cons, Nat.add_mul, Nat.one_mul]; omega
theorem setCell_keep (w : World) (p : Addr) (v : Value) : Keep (· = p.block) w (w.setCell p v) := (Keep.refl _ _).setCell (S := (· = p.block)) (fun _ => rfl) v
def MarkI (B n c : Nat) (A : Option Addr) (k : Int) (w : World) (e : Ending) (w' : World) : Prop :=
  e = .returned (.int .i64 (k + n)) ∧ OI w' B A n c (seqI k n) ∧ Keep (fun g => (Value.slice A n c).ownBlock = some g) w w'
theorem ints_set (xs : List Int) (k : Nat) (x : Int) : (ints xs).set k (.int .i64 x) = ints (xs.set k x) := by simp [ints, List.map_set]
theorem markIntS (B : Nat) (A : Option Addr) (n c : Nat) (xs : List Int) (k : Int) (w : World) (h : OI w B A n c xs) (hk : 0 ≤ k) (hk' : k + n ≤ 8796093022208) :
    Calls Try.prog 69 #[.slice A n c, .int .i64 k] w (MarkI B n c A k w) := by
  have hbig := h.big
  have hlen := h.len
  have hadr := h.adr
  have H := Lib.hid h
  have HL := Lib.hid hlen
  have HA := Lib.hid hadr
  clear h hlen hadr
  go_enter Try.func69, Try.ntmps69
  go_wp2_with (fail)
  go_loopw [1, 5] (fun v i wr => ∃ j : Nat, j ≤ n ∧ i = .int .i64 j ∧ v = .int .i64 (k + (j : Int)) ∧ OI wr B A n c ((seqI k n).take j ++ xs.drop j) ∧ Keep (fun g => (Value.slice A n c).ownBlock = some g) w wr) (fun _ i _ => n - (intOf i).toNat)
  case atStart => exact ⟨0, by omega, rfl, by simp, by simpa using H.out, Keep.refl _ _⟩
  case round =>
    obtain ⟨j, hj, rfl, rfl, hown, hkeep⟩ := hrel
    by_cases hlt : j < n
    · obtain ⟨g, hg, hBg⟩ : ∃ g, A = some ⟨g, 0, none⟩ ∧ B ≤ g := by
        rcases HA.out with ⟨_, h0, _⟩ | ⟨g, h1, h2, _⟩
        · omega
        · exact ⟨g, h1, h2⟩
      subst hg
      have hl := hown.len
      have hcell := World.ownsRow.cellAt hown j (by omega)
      have hfr := World.ownsRow.frozenAt hown j
      have hst := World.ownsRow.stored hown j (.int .i64 (k + (j : Int)))
      rw [ints_set, set_step _ _ j _ (by rw [seqI_len]; exact HL.out.symm) (seqI_get k n j hlt)] at hst
      obtain ⟨v0, hv0⟩ : ∃ v0, wr.cell? ⟨g, j, none⟩ = some v0 := by
        rw [hcell]; exact ⟨_, List.getElem?_eq_getElem (by simp only [ints, List.length_map]; omega)⟩
      have HO := Lib.hid hst.1
      have HK := Lib.hid (hkeep.trans ((setCell_keep wr ⟨g, j, none⟩ (.int .i64 (k + (j : Int)))).mono (fun q _ hq => by rw [hq]; rfl)))
      clear hcell hst hown hkeep hl
      go_wp2_with (fail)
      go_roundw
      case rel => exact ⟨j + 1, by omega, by go_num, by congr 1; omega, HO.out, HK.out⟩
      case measure => simp [intOf]; omega
    · obtain rfl : j = n := by omega
      have e : (seqI k j).take j ++ xs.drop j = seqI k j := by
        rw [List.take_of_length_le (by rw [seqI_len]; omega), List.drop_of_length_le (by have := HL.out; omega)]; simp
      rw [e] at hown
      have HO := Lib.hid hown
      clear e hown
      go_wp2_with (fail)
      go_ret
      exact ⟨rfl, HO.out, hkeep⟩
theorem heldIntS (A : Option Addr) (n c b o : Nat) (k : Int) (w : World) (h : IA w A n b o (seqI k n)) (hk : 0 ≤ k) (hk' : k + n ≤ 8796093022208) :
    Calls Try.prog 71 #[.slice A n c, .int .i64 k] w fun e w' => e = .returned (.int .i64 (k + n)) ∧ w = w' := by
  have hbig := h.big
  have H := Lib.hid h
  clear h
  go_enter Try.func71, Try.ntmps71
  go_wp2_with (fail)
  go_loop [1, 5] (fun v i => ∃ j : Nat, j ≤ n ∧ i = .int .i64 j ∧ v = .int .i64 (k + (j : Int))) (fun _ i => n - (intOf i).toNat)
  case atStart => exact ⟨0, by omega, rfl, by simp⟩
  case round =>
    obtain ⟨j, hj, rfl, rfl⟩ := hrel
    by_cases hlt : j < n
    · obtain rfl := H.out.adr (by omega)
      obtain ⟨x, hx, hc⟩ := H.out.cell j hlt
      rw [seqI_get k n j hlt] at hx
      obtain rfl := Option.some.inj hx
      have hq : ((k + (j : Int)) != (k + (j : Int))) = false := by simp
      clear hx
      go_wp2_with (fail)
      go_round
      case rel => exact ⟨j + 1, by omega, by go_num, by congr 1; omega⟩
      case measure => simp [intOf]; omega
    · obtain rfl : j = n := by omega
      go_wp2_with (fail)
      go_ret
      exact ⟨rfl, rfl⟩
end Go.Proofs.Ytegkmolffemkpaa
