/-
  Plain mathematics: the first numbers of the series of a fraction.
-/
import Derived.Test.YtllakclbgmingaaDoorLeM
import Derived.Test.YtllakclbgmingaaDoorISer
import Derived.Test.YtllakclbgmingaaDoorIBack
namespace Go.Proofs.YtllakclbgmingaaDoor
def begL (U : List Int) (m : Nat) : List Int := (List.range m).map (co U)
theorem begL_len (U : List Int) (m : Nat) : (begL U m).length = m := by simp [begL]
theorem begL_get (U : List Int) {m k : Nat} (h : k < m) : (begL U m)[k]? = some (co U k) := by unfold begL; rw [List.getElem?_map, List.getElem?_range h]; rfl
theorem co_begL (U : List Int) {m k : Nat} (h : k < m) : co (begL U m) k = co U k := getD_at (begL_get U h)
theorem begL_num {p : Int} (hp : primeB p = true) {U : List Int} (hU : ∀ x ∈ U, numB p x = true) (m : Nat) : ∀ x ∈ begL U m, numB p x = true := by
  intro x hx
  obtain ⟨k, _, rfl⟩ := List.mem_map.1 hx
  unfold co
  rw [List.getD_eq_getElem?_getD]
  cases hk : U[k]? with
  | none => exact numB_zero hp
  | some y => exact hU y (List.mem_of_getElem? hk)
theorem begL_ser {p : Int} (hp : primeB p = true) {U : List Int} (hU : ∀ x ∈ U, numB p x = true) {m : Nat} (hm : m ≤ 24) : serB p (begL U m) = true := serB_mk hp (by rw [begL_len]; exact hm) (begL_num hp hU m)
def frT (p : Int) (U L : List Int) (m : Nat) : List Int := convR p U (backL p (begL L m)) m
theorem frT_len (p : Int) (U L : List Int) (m : Nat) : (frT p U L m).length = m := convR_len _ _ _ _
theorem frT_back {p : Int} (hp : primeB p = true) {L : List Int} (hL : ∀ x ∈ L, numB p x = true) (h0 : co L 0 ≠ 0) {m : Nat} (hm : m ≤ 24) (h1 : 1 ≤ m) : serBk p (begL L m) = backL p (begL L m) ∧ serB p (backL p (begL L m)) = true ∧ (backL p (begL L m)).length = m := by
  have hs := begL_ser hp hL hm
  have h00 : co (begL L m) 0 ≠ 0 := by rw [co_begL L (by omega)]; exact h0
  obtain ⟨b1, b2, _, _⟩ := back_law hs (by rw [begL_len]; exact h1) h00
  rw [begL_len] at b2
  exact ⟨by unfold serBk; rw [if_pos ⟨hs, by rw [begL_len]; omega, h00⟩], b1, b2⟩
theorem frT_eq {p : Int} (hp : primeB p = true) {U L : List Int} (hU : ∀ x ∈ U, numB p x = true) (hL : ∀ x ∈ L, numB p x = true) (h0 : co L 0 ≠ 0) {m : Nat} (hm : m ≤ 24) : serT p (begL U m) (serBk p (begL L m)) = frT p U L m := by
  by_cases h1 : 1 ≤ m
  · obtain ⟨e, b1, b2⟩ := frT_back hp hL h0 hm h1
    rw [e]
    unfold serT
    rw [if_pos ⟨begL_ser hp hU hm, b1⟩]
    unfold serL frT
    rw [begL_len, b2, Nat.min_self]
    unfold convR
    refine List.map_congr_left fun k hk => ?_
    have hk' := List.mem_range.1 hk
    have : conv (begL U m) (backL p (begL L m)) k = conv U (backL p (begL L m)) k := sigN_congr fun j hj => by
      show co (begL U m) j * _ = co U j * _
      rw [co_begL U (by omega)]
    rw [this]
  · obtain rfl : m = 0 := by omega
    have : frT p U L 0 = [] := rfl
    rw [this]
    refine List.eq_nil_of_length_eq_zero ?_
    unfold serT
    split
    · rw [serL_len, begL_len, Nat.zero_min]
    · rfl
/-- the first numbers, of whatever arguments -/
def fracT (p : Int) (U L : List Int) (many : Int) : List Int := if fracB p U L = true ∧ 0 ≤ many ∧ many ≤ 24 then frT p U L many.toNat else []
theorem fracT_bd (p : Int) (U L : List Int) (many : Int) : (fracT p U L many).length ≤ 1048576 := by
  unfold fracT
  split
  · rename_i h; rw [frT_len]; omega
  · simp
theorem fracT_yes {p : Int} {U L : List Int} {m : Nat} (h : fracB p U L = true) (hm : m ≤ 24) : fracT p U L (m : Int) = frT p U L m := by unfold fracT; rw [if_pos ⟨h, by omega, by omega⟩]; rfl
end Go.Proofs.YtllakclbgmingaaDoor
