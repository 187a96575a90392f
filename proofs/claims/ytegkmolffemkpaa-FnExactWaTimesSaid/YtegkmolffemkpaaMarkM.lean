/-
  The same for slices of slices.
-/
import Derived.Test.YtegkmolffemkpaaMark
namespace Go.Proofs.Ytegkmolffemkpaa
open Go.RowKit
/-- the rows' blocks lie from B on, below hi -/
def Foot (vs : List Value) (B hi : Nat) : Prop := ∀ (r : Nat) (u : Value) (g : Nat), vs[r]? = some u → u.ownBlock = some g → B ≤ g ∧ g < hi
theorem OM.foot {w : World} {B n c : Nat} {A : Option Addr} {M : List (List Int)} {vs : List Value} (h : OM w B A n c M vs) : Foot vs B w.heap.size := by
  intro r u g hu hg
  have hr : r < M.length := by have := (List.getElem?_eq_some_iff.1 hu).1; rw [h.vlen] at this; rw [h.len]; exact this
  obtain ⟨A', c', h1, h2⟩ := h.row r _ (List.getElem?_eq_getElem hr)
  rw [hu] at h1
  obtain rfl := Option.some.inj h1
  exact h2.lt g hg
theorem OM.keep {w w' : World} {B n c : Nat} {A : Option Addr} {M : List (List Int)} {vs : List Value} {S : Nat → Prop} (h : OM w B A n c M vs) (k : Keep S w w') (hs : ∀ g, B ≤ g → g < w.heap.size → ¬ S g) : OM w' B A n c M vs :=
  ⟨owns_keep h.out k (fun g hg => let ⟨a, b⟩ := h.out.lt g hg; hs g a b), h.len, fun r row hr => let ⟨A', c', h1, h2⟩ := h.row r row hr; ⟨A', c', h1, owns_keep h2 k (fun g hg => let ⟨a, b⟩ := h2.lt g hg; hs g a b)⟩, h.apart⟩
theorem block_elem {w : World} {B e e' n n' : Nat} {v v' : Value} {xs xs' : List Value} (h : w.ownsRow B e 1 v n xs) (h' : w.ownsRow B e' 1 v' n' xs') (hne : e ≠ e') (g : Nat) (hg : v.ownBlock = some g) : v'.ownBlock ≠ some g := by
  intro hg'
  rcases h.2 with ⟨h1, _⟩ | ⟨g1, cap1, cur1, hv1, _, hh1, _⟩
  · rw [h1] at hg; simp [Value.ownBlock] at hg
  rcases h'.2 with ⟨h1, _⟩ | ⟨g2, cap2, cur2, hv2, _, hh2, _⟩
  · rw [h1] at hg'; simp [Value.ownBlock] at hg'
  rw [hv1] at hg; rw [hv2] at hg'
  simp only [Value.ownBlock, Option.some.injEq] at hg hg'
  subst hg; subst hg'
  rw [hh1] at hh2
  simp at hh2
  exact hne hh2.2
theorem OM.setRow {w w' : World} {B n c : Nat} {A : Option Addr} {M : List (List Int)} {vs : List Value} (h : OM w B A n c M vs) {r : Nat} {row new : List Int} {A' : Option Addr} {c' : Nat} (hr : M[r]? = some row) (hv : vs[r]? = some (Value.slice A' row.length c'))
    (hl : new.length = row.length) (hI : OI w' B A' row.length c' new) (k : Keep (fun g => (Value.slice A' row.length c').ownBlock = some g) w w') : OM w' B A n c (M.set r new) vs := by
  have hlt : r < M.length := (List.getElem?_eq_some_iff.1 hr).1
  obtain ⟨A1, c1, hv1, hI1⟩ := h.row r row hr
  rw [hv] at hv1
  simp only [Option.some.injEq, Value.slice.injEq, true_and] at hv1
  obtain ⟨rfl, rfl⟩ := hv1
  refine ⟨owns_keep h.out k (fun g hg hs => ?_), by simp [h.len], fun s row' hs => ?_, h.apart⟩
  · exact block_elem hI1 h.out (by decide) g hs hg
  · by_cases e : s = r
    · subst e
      rw [List.getElem?_set_self hlt] at hs
      obtain rfl := Option.some.inj hs
      exact ⟨A', c', by rw [hl]; exact hv, by rw [hl]; exact hI⟩
    · rw [List.getElem?_set_ne (fun e' => e e'.symm)] at hs
      obtain ⟨A2, c2, h1, h2⟩ := h.row s row' hs
      refine ⟨A2, c2, h1, owns_keep h2 k (fun g hg hs' => ?_)⟩
      rcases Nat.lt_or_gt_of_ne e with hlt' | hlt'
      · rcases h.apart s r _ _ hlt' h1 hv with h3 | h3
        · rw [h3] at hg; simp at hg
        · exact h3 (hg.trans hs'.symm)
      · rcases h.apart r s _ _ hlt' hv h1 with h3 | h3
        · rw [h3] at hs'; simp at hs'
        · exact h3 (hs'.trans hg.symm)
def MarkM (B n c hi : Nat) (A : Option Addr) (k : Int) (M : List (List Int)) (vs : List Value) (w : World) (e : Ending) (w' : World) : Prop :=
  e = .returned (.int .i64 (k + (tot M : Int))) ∧ OM w' B A n c (seqM k M) vs ∧ Keep (fun g => B ≤ g ∧ g < hi) w w'
theorem markIntSS (B hi : Nat) (A : Option Addr) (n c : Nat) (M : List (List Int)) (vs : List Value) (k : Int) (w : World) (h : OM w B A n c M vs) (hf : Foot vs B hi) (hk : 0 ≤ k) (hk' : k + (tot M : Int) ≤ 8796093022208) :
    Calls Try.prog 70 #[.slice A n c, .int .i64 k] w (MarkM B n c hi A k M vs w) := by
  have hbig := h.big
  have H := Lib.hid h
  have HF := Lib.hid hf
  clear h hf
  go_enter Try.func70, Try.ntmps70
  go_wp2_with (fail)
  go_loopw [1, 5] (fun v i wr => ∃ j : Nat, j ≤ n ∧ i = .int .i64 j ∧ v = .int .i64 (k + (tot (M.take j) : Int)) ∧ OM wr B A n c ((seqM k M).take j ++ M.drop j) vs ∧ Keep (fun g => B ≤ g ∧ g < hi) w wr) (fun _ i _ => n - (intOf i).toNat)
  case atStart => exact ⟨0, by omega, rfl, by simp [tot], by simpa using H.out, Keep.refl _ _⟩
  case round =>
    obtain ⟨j, hj, rfl, rfl, hown, hkeep⟩ := hrel
    by_cases hlt : j < n
    · have hL := H.out.len
      obtain ⟨g, hg⟩ : ∃ g, A = some ⟨g, 0, none⟩ := by
        rcases H.out.adr with ⟨_, h0, _⟩ | ⟨g, h1, _⟩
        · omega
        · exact ⟨g, h1⟩
      subst hg
      have hrow : M[j]? = some (M[j]'(by omega)) := List.getElem?_eq_getElem (by omega)
      obtain ⟨row, hrw⟩ : ∃ row, M[j]'(by omega) = row := ⟨_, rfl⟩
      rw [hrw] at hrow
      have hmix : ((seqM k M).take j ++ M.drop j)[j]? = some row := by rw [mix_get _ _ _ (seqM_len k M) (by rw [seqM_len]; omega)]; exact hrow
      obtain ⟨A1, c1, hv, hI⟩ := hown.row j row hmix
      have hcell := World.ownsRow.cellAt hown.out j (by omega)
      rw [hv] at hcell
      have ht := tot_take M j row hrow
      have ht2 := tot_take_le M (j + 1)
      have HR := Lib.hid hrow
      have HM := Lib.hid hmix
      have HV := Lib.hid hv
      have HO := Lib.hid hown
      have HI := Lib.hid hI
      have HT := Lib.hid ht
      have hb1 : k + (tot (M.take j) : Int) + row.length ≤ 8796093022208 := by omega
      clear hrw hrow hmix hv hown hI ht ht2 hL
      go_wp2_with (fail)
      refine (markIntS B A1 row.length c1 row (k + (tot (M.take j) : Int)) _ HI.out (by omega) hb1).mono ?_
      rintro e w1 ⟨rfl, hI1, hK1⟩
      have hs := HO.out.setRow HM.out HV.out (seqI_len _ _) hI1 hK1
      rw [set_step _ _ j _ (seqM_len k M) (seqM_get M k j row HR.out)] at hs
      have HS := Lib.hid hs
      have HK := Lib.hid (hkeep.trans (hK1.mono (fun g _ hg => HF.out j _ g HV.out hg)))
      clear hs hK1 hkeep hI1
      go_wp2_with (fail)
      go_roundw
      case rel => exact ⟨j + 1, by omega, by go_num, by congr 1; have := HT.out; omega, HS.out, HK.out⟩
      case measure => simp [intOf]; omega
    · obtain rfl : j = n := by omega
      have hL := H.out.len
      have e : (seqM k M).take j ++ M.drop j = seqM k M := by
        rw [List.take_of_length_le (by rw [seqM_len]; omega), List.drop_of_length_le (by omega)]; simp
      have e2 : M.take j = M := List.take_of_length_le (by omega)
      rw [e] at hown
      have HO := Lib.hid hown
      have HE := Lib.hid e2
      clear e hown e2 hL
      go_wp2_with (fail)
      go_ret
      exact ⟨ret_int (by rw [HE.out]), HO.out, hkeep⟩
theorem heldIntSS (A : Option Addr) (n c b o : Nat) (k : Int) (M : List (List Int)) (w : World) (h : RA w A n b o (seqM k M)) (hk : 0 ≤ k) (hk' : k + (tot M : Int) ≤ 8796093022208) :
    Calls Try.prog 72 #[.slice A n c, .int .i64 k] w fun e w' => e = .returned (.int .i64 (k + (tot M : Int))) ∧ w = w' := by
  have hbig := h.big
  have hL : M.length = n := by rw [← h.len, seqM_len]
  have HL := Lib.hid hL
  have H := Lib.hid h
  clear h hL
  go_enter Try.func72, Try.ntmps72
  go_wp2_with (fail)
  go_loop [1, 5] (fun v i => ∃ j : Nat, j ≤ n ∧ i = .int .i64 j ∧ v = .int .i64 (k + (tot (M.take j) : Int))) (fun _ i => n - (intOf i).toNat)
  case atStart => exact ⟨0, by omega, rfl, by simp [tot]⟩
  case round =>
    obtain ⟨j, hj, rfl, rfl⟩ := hrel
    by_cases hlt : j < n
    · obtain rfl := H.out.adr (by omega)
      have hL := HL.out
      have hrow : M[j]? = some (M[j]'(by omega)) := List.getElem?_eq_getElem (by omega)
      obtain ⟨row, hrw⟩ : ∃ row, M[j]'(by omega) = row := ⟨_, rfl⟩
      rw [hrw] at hrow
      obtain ⟨row', A1, c1, b1, o1, hr', hc, hI⟩ := H.out.row j hlt
      rw [seqM_get M k j row hrow] at hr'
      obtain rfl := Option.some.inj hr'
      rw [seqI_len] at hc hI
      have ht := tot_take M j row hrow
      have ht2 := tot_take_le M (j + 1)
      have hbig1 := hI.big
      have HI := Lib.hid hI
      have HT := Lib.hid ht
      have hb1 : k + (tot (M.take j) : Int) + row.length ≤ 8796093022208 := by omega
      have hb0 : 0 ≤ k + (tot (M.take j) : Int) + row.length := by omega
      clear hrw hrow ht ht2 hL hr' hI
      go_wp2_with (fail)
      refine (heldIntS A1 row.length c1 b1 o1 (k + (tot (M.take j) : Int)) _ HI.out (by omega) hb1).mono ?_
      rintro e w1 ⟨rfl, rfl⟩
      go_wp2_with (fail)
      go_round
      case rel => exact ⟨j + 1, by omega, by go_num, by congr 1; have := HT.out; omega⟩
      case measure => simp [intOf]; omega
    · obtain rfl : j = n := by omega
      have e2 : M.take j = M := List.take_of_length_le (by have := HL.out; omega)
      have HE := Lib.hid e2
      clear e2
      go_wp2_with (fail)
      go_ret
      exact ⟨ret_int (by rw [HE.out]), rfl⟩
end Go.Proofs.Ytegkmolffemkpaa
