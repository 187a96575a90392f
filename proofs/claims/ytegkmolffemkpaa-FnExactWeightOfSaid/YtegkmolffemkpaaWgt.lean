/-
  Weights of words: what they are; the contracts of WeightOf, of the model and of the program.
-/
import Derived.Deep.RegionHeld3
import Derived.Deep.DeepCutAuto
import Derived.Test.YtegkmolffemkpaaRt
import Derived.Test.YtegkmolffemkpaaWord
import Derived.Test.YtegkmolffemkpaaApA
namespace Go.Proofs.Ytegkmolffemkpaa
open Go.RowKit
def runW (p : Int) (MA MB : List (List Int)) (row : List Int) (word : List Int) : List Int := word.foldl (fun r x => rowT p (if x = 0 then MA else MB) r) row
def weightR (p : Int) (S : List Int) (MA MB : List (List Int)) (E : List Int) (word : List Int) : Int :=
  if waB p S MA MB E = true ∧ wordB word = true then dot (runW p MA MB S word) E % p else -1
theorem runW_len (p : Int) (MA MB : List (List Int)) : ∀ (word row : List Int), (runW p MA MB row word).length = row.length
  | [], _ => rfl
  | x :: word, row => by show (runW p MA MB (rowT p (if x = 0 then MA else MB) row) word).length = _; rw [runW_len p MA MB word, rowT_len]
theorem runW_step (p : Int) (MA MB : List (List Int)) (row word : List Int) (k : Nat) (x : Int) (h : word[k]? = some x) : runW p MA MB row (word.take (k + 1)) = rowT p (if x = 0 then MA else MB) (runW p MA MB row (word.take k)) := by
  unfold runW; rw [List.take_add_one, h, List.foldl_append]; rfl
theorem runW_val {p : Int} (hp : primeB p = true) (MA MB : List (List Int)) : ∀ (word row : List Int), (∀ x ∈ row, numB p x = true) → ∀ x ∈ runW p MA MB row word, numB p x = true
  | [], _, h => h
  | _ :: word, _, _ => runW_val hp MA MB word _ (rowT_val hp _ _)
theorem specDot (p : Int) (A : Option Addr) (n c b o : Nat) (xs : List Int) (A' : Option Addr) (c' b' o' : Nat) (ys : List Int) (w : World) (h : IA w A n b o xs) (h' : IA w A' n b' o' ys) (hn : n ≤ 8)
    (hp : primeB p = true) (hx : ∀ x ∈ xs, numB p x = true) (hy : ∀ y ∈ ys, numB p y = true) :
    Calls Try.prog 62 #[.int .i64 p, .slice A n c, .slice A' n c'] w fun e w' => e = .returned (.int .i64 (dot xs ys % p)) ∧ ∃ m, w' = w.drewN m := by
  have hpb := prime_ge hp
  have H := Lib.hid h
  have H' := Lib.hid h'
  have HX := Lib.hid hx
  have HY := Lib.hid hy
  clear h h' hx hy hp
  go_enter Try.func62, Try.ntmps62
  go_wp2_with (fail)
  go_loopw [7, 8] (fun s i wr => ∃ k : Nat, k ≤ n ∧ i = .int .i64 k ∧ s = .int .i64 (dot (xs.take k) (ys.take k)) ∧ Hid (∃ m, wr = w.drewN m)) (fun _ i _ => n - (intOf i).toNat)
  case atStart => exact ⟨0, by omega, rfl, by simp [dot], 0, rfl⟩
  case round =>
    obtain ⟨k, hk, rfl, rfl, hw⟩ := hrel
    have hb := dot_take_bd hpb.2 xs ys k (by omega) HX.out HY.out
    by_cases hlt : k < n
    · obtain rfl := H.out.adr (by omega)
      obtain rfl := H'.out.adr (by omega)
      obtain ⟨x, hx, hc⟩ := (H.out.drewN hw.out).cell k hlt
      obtain ⟨y, hy, hc'⟩ := (H'.out.drewN hw.out).cell k hlt
      have hxb := numB_bd (HX.out x (List.mem_of_getElem? hx))
      have hyb := numB_bd (HY.out y (List.mem_of_getElem? hy))
      have hm := mul_bd hxb.1 (by omega) hyb.1 (by omega)
      have HD := Lib.hid (dot_take xs ys k x y hx hy)
      clear hx hy
      go_wp2_with (fail)
      go_quiet (fail)
      go_wp2_with (fail)
      go_roundw
      case rel => exact ⟨k + 1, by omega, by go_num, by rw [HD.out], drewN_more hw.out _⟩
      case measure => simp [intOf]; omega
    · obtain rfl : k = n := by omega
      have HD := Lib.hid (dot_same xs ys k H.out.len H'.out.len)
      go_wp2_with (fail)
      go_ret
      exact ⟨ret_int (by rw [HD.out]), hw.out⟩
set_option maxHeartbeats 1600000 in
theorem specReached (p : Int) (A1 : Option Addr) (n c1 b1 o1 : Nat) (A2 : Option Addr) (c2 b2 o2 : Nat) (A3 : Option Addr) (c3 b3 o3 : Nat) (v4 : Value) (S : List Int) (MA MB : List (List Int)) (A : Option Addr) (m c b o : Nat) (word : List Int) (w : World)
    (h1 : IA w A1 n b1 o1 S) (h2 : RA w A2 n b2 o2 MA) (h3 : RA w A3 n b3 o3 MB) (h : IA w A m b o word) (hn : n ≤ 6) (hp : primeB p = true) (hS : ∀ x ∈ S, numB p x = true) (hA : ∀ r ∈ MA, r.length = n ∧ rowB p r = true) (hB : ∀ r ∈ MB, r.length = n ∧ rowB p r = true) :
    Calls Try.prog 63 #[.agg #[.int .i64 p, .slice A1 n c1, .slice A2 n c2, .slice A3 n c3, v4], .slice A m c] w (MadeI n (runW p MA MB S word) w) := by
  have hbig := h.big
  have hb0 : Below w.heap.size w (w.alloc (.cells #[.int .i64 p, .slice A1 n c1, .slice A2 n c2, .slice A3 n c3, v4] 26)) := (Below.refl _ w).alloc (Nat.le_refl _) _
  have H1 := Lib.hid (h1.below hb0)
  have H2 := Lib.hid (h2.below hb0)
  have H3 := Lib.hid (h3.below hb0)
  have H := Lib.hid (h.below hb0)
  have HL := Lib.hid h1.len
  have HS := Lib.hid hS
  have HA := Lib.hid hA
  have HBB := Lib.hid hB
  have HLW := Lib.hid h.len
  have HP := Lib.hid hp
  have HB0 := Lib.hid hb0
  clear h1 h2 h3 h hS hA hB hb0 hp
  go_enter Try.func63, Try.ntmps63
  go_upto_region 1 with (fail)
  obtain ⟨x0, x1, x2, x3, x4⟩ := box5 w (.int .i64 p) (.slice A1 n c1) (.slice A2 n c2) (.slice A3 n c3) v4 26
  obtain ⟨wb, hwb⟩ : ∃ wb, w.alloc (.cells #[.int .i64 p, .slice A1 n c1, .slice A2 n c2, .slice A3 n c3, v4] 26) = wb := ⟨_, rfl⟩
  rw [hwb] at x0 x1 x2 x3 x4 H1 H2 H3 H HB0
  rw [hwb]
  have hsb : w.heap.size ≤ wb.heap.size := by rw [← hwb]; simp
  have x1 := (keep_of_below ((Below.refl wb.heap.size wb).alloc (Nat.le_refl _) (.cells #[] 3))).cell x1 (fun h => h)
  clear x4 hwb
  go_wp2_with (at_builtin; refine wpList_app_any rfl (.tmp 7) (.tmp 9) rfl rfl A1 n c1 b1 o1 S rfl H1.out (by omega) ?_)
  intro A4 c4 w4 hI4 hB4
  have HI4 := Lib.hid hI4
  have HB4 := Lib.hid hB4
  clear hI4 hB4
  go_wp2_with (fail)
  go_loopw [5, 6] (fun v i wr => ∃ (k : Nat) (A' : Option Addr) (c' : Nat), k ≤ m ∧ i = .int .i64 k ∧ v = .slice A' n c' ∧ OI wr wb.heap.size A' n c' (runW p MA MB S (word.take k)) ∧ Below wb.heap.size wb wr) (fun _ i _ => m - (intOf i).toNat)
  case atStart => exact ⟨0, _, _, by omega, rfl, rfl, HI4.out, HB4.out⟩
  case round =>
    obtain ⟨k, A', c', hk, rfl, rfl, hown, hbel⟩ := hrel
    have hsr := hbel.size
    have kb := keep_of_below hbel
    have x0 := kb.cell x0 (fun h => h)
    have x2 := kb.cell x2 (fun h => h)
    have x3 := kb.cell x3 (fun h => h)
    by_cases hlt : k < m
    · obtain ⟨x, hx, hxc⟩ := (H.out.below hbel).cell k hlt
      obtain rfl := H.out.adr (by omega)
      have HXW := Lib.hid (runW_step p MA MB S word k x hx)
      obtain ⟨bo, hia⟩ := hown.ia
      have HI := Lib.hid hia
      have HB := Lib.hid hbel
      have HV := Lib.hid (runW_val HP.out MA MB (word.take k) S HS.out)
      clear hx hia hown hbel kb
      by_cases hz : x = 0
      · subst hz
        go_wp2_with (fail)
        refine (specRowT p A' n c' bo 0 _ A2 c2 b2 o2 MA _ HI.out (H2.out.below HB.out) (by omega) HP.out HV.out HA.out).mono ?_
        rintro e w5 ⟨A5, c5, rfl, hO5, hB5⟩
        have HO5 := Lib.hid (owns_mono hO5 (B' := wb.heap.size) hsr)
        have HB5 := Lib.hid (HB.out.trans (hB5.mono hsr))
        clear hO5 hB5
        go_wp2_with (fail)
        go_roundw
        case rel => exact ⟨k + 1, _, _, by omega, by go_num, rfl, by rw [HXW.out]; exact HO5.out, HB5.out⟩
        case measure => simp [intOf]; omega
      · have hq : (x == 0) = false := by simpa using hz
        go_wp2_with (fail)
        refine (specRowT p A' n c' bo 0 _ A3 c3 b3 o3 MB _ HI.out (H3.out.below HB.out) (by omega) HP.out HV.out HBB.out).mono ?_
        rintro e w5 ⟨A5, c5, rfl, hO5, hB5⟩
        have HO5 := Lib.hid (owns_mono hO5 (B' := wb.heap.size) hsr)
        have HB5 := Lib.hid (HB.out.trans (hB5.mono hsr))
        clear hO5 hB5
        go_wp2_with (fail)
        go_roundw
        case rel => exact ⟨k + 1, _, _, by omega, by go_num, rfl, by rw [HXW.out, if_neg hz]; exact HO5.out, HB5.out⟩
        case measure => simp [intOf]; omega
    · obtain rfl : k = m := by omega
      rw [List.take_of_length_le (by rw [HLW.out]; omega)] at hown
      have HO := Lib.hid (owns_mono hown (B' := w.heap.size) hsb)
      have HB := Lib.hid (HB0.out.trans (hbel.mono hsb))
      clear hown hbel kb
      go_wp2_with (fail)
      go_ret
      exact ⟨_, _, rfl, HO.out, HB.out⟩
end Go.Proofs.Ytegkmolffemkpaa
