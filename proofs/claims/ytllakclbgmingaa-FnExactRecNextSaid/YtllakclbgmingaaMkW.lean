/-
  Marks in rows of the call's own that begin anywhere in their block.
-/
import Derived.Test.YtllakclbgmingaaNxt
namespace Go.Proofs.Ytllakclbgmingaa
open Go.RowKit
theorem IA.put {w : World} {A : Option Addr} {n b o : Nat} {xs : List Int} (h : IA w A n b o xs) {j : Nat} (hj : j < n) (x : Int) : IA (w.setCell ⟨b, o + j, none⟩ (.int .i64 x)) A n b o (xs.set j x) := by
  refine ⟨by rw [List.length_set]; exact h.len, h.adr, h.big, fun i hi => ?_⟩
  obtain ⟨y, hy, hc⟩ := h.cell i hi
  by_cases e : i = j
  · subst e
    exact ⟨x, by rw [List.getElem?_set_self (by rw [h.len]; exact hi)], World.cell?_setCell_same' w ⟨b, o + i, none⟩ (.int .i64 x) (by rw [hc]; rfl)⟩
  · refine ⟨y, by rw [List.getElem?_set_ne (fun h => e h.symm)]; exact hy, ?_⟩
    exact (World.cell?_setCell_other w ⟨b, o + j, none⟩ ⟨b, o + i, none⟩ (.int .i64 x) (by simp <;> omega)).trans hc
def MarkIW (B n c : Nat) (A : Option Addr) (k : Int) (w : World) (e : Ending) (w' : World) : Prop :=
  e = .returned (.int .i64 (k + n)) ∧ OW w' B A n c (seqI k n) ∧ Keep (fun g => (Value.slice A n c).ownBlock = some g) w w'
theorem markIntSW (B : Nat) (A : Option Addr) (n c : Nat) (xs : List Int) (k : Int) (w : World) (h : OW w B A n c xs) (hk : 0 ≤ k) (hk' : k + n ≤ 8796093022208) :
    Calls Try.prog 45 #[.slice A n c, .int .i64 k] w (MarkIW B n c A k w) := by
  obtain ⟨b, o, h1, h2, h3⟩ := h
  have hbig := h1.big
  have HL := Lib.hid h1.len
  have H := Lib.hid h1
  have HB := Lib.hid h2
  have HF := Lib.hid h3
  clear h1 h2 h3
  go_enter Try.func45, Try.ntmps45
  go_wp2_with (fail)
  go_loopw [1, 5] (fun v i wr => ∃ j : Nat, j ≤ n ∧ i = .int .i64 j ∧ v = .int .i64 (k + (j : Int)) ∧ IA wr A n b o ((seqI k n).take j ++ xs.drop j) ∧ (∀ i, i < n → wr.frozen? ⟨b, o + i, none⟩ = false) ∧ Keep (fun g => (Value.slice A n c).ownBlock = some g) w wr) (fun _ i _ => n - (intOf i).toNat)
  case atStart => exact ⟨0, by omega, rfl, by simp, by simpa using H.out, HF.out, Keep.refl _ _⟩
  case round =>
    obtain ⟨j, hj, rfl, rfl, hown, hfz, hkeep⟩ := hrel
    by_cases hlt : j < n
    · obtain rfl := H.out.adr (by omega)
      obtain ⟨y, _, hcell⟩ := hown.cell j hlt
      have hfr := hfz j hlt
      have hst := hown.put hlt (k + (j : Int))
      rw [set_step _ _ j _ (by rw [seqI_len]; exact HL.out.symm) (seqI_get k n j hlt)] at hst
      have HO := Lib.hid hst
      have HZ := Lib.hid (show ∀ i, i < n → (wr.setCell ⟨b, o + j, none⟩ (.int .i64 (k + (j : Int)))).frozen? ⟨b, o + i, none⟩ = false from fun i hi => (World.frozen?_setCell _ _ _ _).trans (hfz i hi))
      have HK := Lib.hid (hkeep.trans ((setCell_keep wr ⟨b, o + j, none⟩ (.int .i64 (k + (j : Int)))).mono (fun q _ hq => by rw [hq]; rfl)))
      clear hst hown hkeep hfz
      go_wp2_with (fail)
      go_roundw
      case rel => exact ⟨j + 1, by omega, by go_num, by congr 1; omega, HO.out, HZ.out, HK.out⟩
      case measure => simp [intOf]; omega
    · obtain rfl : j = n := by omega
      have e : (seqI k j).take j ++ xs.drop j = seqI k j := by
        rw [List.take_of_length_le (by rw [seqI_len]; omega), List.drop_of_length_le (by have := HL.out; omega)]; simp
      rw [e] at hown
      have HO := Lib.hid hown
      have HZ := Lib.hid hfz
      have HK := Lib.hid hkeep
      clear e hown hfz hkeep
      go_wp2_with (fail)
      go_ret
      exact ⟨rfl, ⟨b, o, HO.out, fun g hg => ⟨(HB.out g hg).1, Nat.lt_of_lt_of_le (HB.out g hg).2 HK.out.size⟩, HZ.out⟩, HK.out⟩
theorem RW.lt {w : World} {B : Nat} {v : Value} {p : Int} {T F : List Int} (h : RW w B v p T F) : ∀ g, recBlk v g → B ≤ g ∧ g < w.heap.size := by
  obtain ⟨A, c, A', c', rfl, ⟨_, _, _, h1, _⟩, ⟨_, _, _, h2, _⟩, _⟩ := h
  rintro g ⟨p', u, u', e, hg⟩
  simp only [Value.agg.injEq, Array.mk.injEq, List.cons.injEq, and_true] at e
  obtain ⟨_, rfl, rfl⟩ := e
  rcases hg with hg | hg
  · exact h1 g hg
  · exact h2 g hg
theorem RW.keep {w w' : World} {B : Nat} {v : Value} {p : Int} {T F : List Int} {S : Nat → Prop} (h : RW w B v p T F) (k : Keep S w w') (hs : ∀ g, recBlk v g → ¬ S g) : RW w' B v p T F := by
  obtain ⟨A, c, A', c', rfl, h1, h2, h3⟩ := h
  exact ⟨A, c, A', c', rfl, h1.keep k (fun g hg => hs g ⟨_, _, _, rfl, .inl hg⟩), h2.keep k (fun g hg => hs g ⟨_, _, _, rfl, .inr hg⟩), h3⟩
theorem RW.below {w w' : World} {B : Nat} {v : Value} {p : Int} {T F : List Int} (h : RW w B v p T F) (k : Below w.heap.size w w') : RW w' B v p T F := h.keep (keep_of_below k) (fun _ _ h => h)
/-- what the marks leave -/
def MarkRW (B : Nat) (v : Value) (p k : Int) (n n' : Nat) (w : World) (e : Ending) (w' : World) : Prop :=
  e = .returned (.int .i64 (k + n + n')) ∧ RW w' B v p (seqI k n) (seqI (k + n) n') ∧ Keep (recBlk v) w w'
theorem markRecW (B : Nat) (v : Value) (p : Int) (T F : List Int) (k : Int) (w : World) (h : RW w B v p T F) (hk : 0 ≤ k) (hk' : k + T.length + F.length ≤ 8796093022208) :
    Calls Try.prog 24 #[v, .int .i64 k] w (MarkRW B v p k T.length F.length w) := by
  have hlt := h.lt
  obtain ⟨A, c, A', c', rfl, h1, h2, h3⟩ := h
  have hB0 : Below w.heap.size w (w.alloc (.cells #[.int .i64 p, .slice A T.length c, .slice A' F.length c'] 25)) := (Below.refl _ w).alloc (Nat.le_refl _) _
  have HLA := Lib.hid (show ∀ g, (Value.slice A T.length c).ownBlock = some g → B ≤ g ∧ g < w.heap.size from fun g hg => hlt g ⟨_, _, _, rfl, .inl hg⟩)
  have H := Lib.hid (h1.keep (keep_of_below hB0) (fun _ _ h => h))
  have H' := Lib.hid (h2.keep (keep_of_below hB0) (fun _ _ h => h))
  have HA := Lib.hid h3
  have HK0 := Lib.hid (show Keep (recBlk (.agg #[.int .i64 p, .slice A T.length c, .slice A' F.length c'])) w _ from (Keep.refl _ _).alloc (.cells #[.int .i64 p, .slice A T.length c, .slice A' F.length c'] 25))
  have hz2 : (w.alloc (.cells #[.int .i64 p, .slice A T.length c, .slice A' F.length c'] 25)).cell? ⟨w.heap.size, 2, none⟩ = some (.slice A' F.length c') := (box3 _ _ _ _ _).2.2
  have HZ2 := Lib.hid hz2
  clear h1 h2 h3 hB0 hz2 hlt
  go_enter Try.func24, Try.ntmps24
  go_wp2_with (fail)
  refine (markIntSW B A T.length c T k _ H.out hk (by omega)).mono ?_
  rintro e w1 ⟨rfl, hO, hK⟩
  have HO := Lib.hid hO
  have HK := Lib.hid hK
  have z2 := hK.cell HZ2.out (fun hg => by have := (HLA.out _ hg).2; simp at this)
  clear hO hK
  go_wp2_with (fail)
  refine (markIntSW B A' F.length c' F (k + (T.length : Int)) _ (H'.out.keep HK.out (fun g hg hs => ap1 HA.out hs hg)) (by omega) (by omega)).mono ?_
  rintro e w2 ⟨rfl, hO2, hK2⟩
  have HO2 := Lib.hid hO2
  have HO1 := Lib.hid (HO.out.keep hK2 (fun g hg hs => ap1 HA.out hg hs))
  have HK2 := Lib.hid ((HK0.out.trans (HK.out.mono (T := recBlk (.agg #[.int .i64 p, .slice A T.length c, .slice A' F.length c'])) (fun g _ hg => ⟨_, _, _, rfl, .inl hg⟩))).trans (hK2.mono (fun g _ hg => ⟨_, _, _, rfl, .inr hg⟩)))
  clear hO2 hK2
  go_wp2_with (fail)
  go_ret
  refine ⟨rfl, ⟨A, c, A', c', by rw [seqI_len, seqI_len], ?_, ?_, ?_⟩, HK2.out⟩
  · rw [seqI_len]; exact HO1.out
  · rw [seqI_len]; exact HO2.out
  · rw [seqI_len, seqI_len]; exact HA.out
end Go.Proofs.Ytllakclbgmingaa
