/-
  The contract of l20Mat, the drawn matrices.
-/
import Derived.Test.YtpelokdgjdljfabRules
import Derived.Test.YtpelokdgjdljfabDraw
import Derived.Test.YtpelokdgjdljfabTurnS
namespace Go.Proofs.Ytpelokdgjdljfab
open Go.RowKit
/-- a drawn row: not long, of small numbers -/
def RowS (row : List Int) : Prop := row.length ≤ 30 ∧ ∀ x ∈ row, 0 ≤ x ∧ x ≤ 17
/-- what was changed: the reader, and what is new -/
def Drw (rb B : Nat) (g : Nat) : Prop := g = rb ∨ B ≤ g
theorem Drw.mono {rb B B' g : Nat} (h : Drw rb B' g) (hB : B ≤ B') : Drw rb B g := Or.elim h .inl (fun h => .inr (Nat.le_trans hB h))
/-- as OM, but two rows may share a block -/
structure OMW (w : World) (B : Nat) (A : Option Addr) (n c : Nat) (M : List (List Int)) (vs : List Value) : Prop where
  out : w.ownsRow B 30 1 (.slice A n c) n vs
  len : M.length = n
  row : ∀ (r : Nat) (row : List Int), M[r]? = some row → ∃ (A' : Option Addr) (c' : Nat), vs[r]? = some (Value.slice A' row.length c') ∧ OI w B A' row.length c' row
def MatPost (rb n c cb co N : Nat) (A : Option Addr) (w : World) (e : Ending) (w' : World) : Prop :=
  ∃ (Ao : Option Addr) (co' : Nat) (M : List (List Int)) (vs : List Value), e = .returned (.slice Ao M.length co') ∧ M.length ≤ 20 ∧ (∀ row ∈ M, RowS row) ∧ OMW w' w.heap.size Ao M.length co' M vs ∧ Rd w' rb A n c cb co N ∧ Keep (Drw rb w.heap.size) w w'
theorem Rd.lt {w : World} {rb n c cb co N : Nat} {A : Option Addr} (h : Rd w rb A n c cb co N) : rb < w.heap.size := cell_lt (p := ⟨rb, 0, none⟩) h.c0
theorem Rd.ltc {w : World} {rb n c cb co N : Nat} {A : Option Addr} (h : Rd w rb A n c cb co N) (hn : 0 < n) : cb < w.heap.size := by
  obtain ⟨x, _, hx⟩ := h.cell 0 hn; exact cell_lt (p := ⟨cb, co + 0, none⟩) hx
/-- the reader is kept by whatever changes blocks from some size on alone -/
theorem Rd.far {w w' : World} {rb n c cb co N B : Nat} {A : Option Addr} {S : Nat → Prop} (h : Rd w rb A n c cb co N) (k : Keep S w w') (hrb : rb < B) (hcb : 0 < n → cb < B) (hS : ∀ g, S g → B ≤ g) : Rd w' rb A n c cb co N :=
  h.keep k (fun hs => by have := hS _ hs; omega) (fun hn hs => by have := hS _ hs; have := hcb hn; omega)
theorem Rd.alloc {w : World} {rb n c cb co N : Nat} {A : Option Addr} (h : Rd w rb A n c cb co N) (ob : Obj) : Rd (w.alloc ob) rb A n c cb co N := h.keep ((Keep.refl (fun _ => False) w).alloc ob) (fun h => h) (fun _ h => h)
theorem Keep.drwR {rb B : Nat} {w w' : World} (h : Keep (· = rb) w w') : Keep (Drw rb B) w w' := h.mono (fun _ _ h => .inl h)
theorem Keep.drwB {rb B : Nat} {S : Nat → Prop} {w w' : World} (h : Keep S w w') (hS : ∀ g, S g → B ≤ g) : Keep (Drw rb B) w w' := h.mono (fun g _ h => .inr (hS g h))
theorem mul_bd2 {x y : Int} (hx : 0 ≤ x) (hx' : x ≤ 17) (hy : 0 ≤ y) (hy' : y ≤ 2) : 0 ≤ x * y ∧ x * y ≤ 34 :=
  ⟨Int.mul_nonneg hx hy, Int.le_trans (Int.mul_le_mul hx' hy' hy (by omega)) (by decide)⟩
theorem cellNew (w : World) (v : Value) (t : TypeId) : (w.alloc (.cells #[v] t)).cell? ⟨w.heap.size, 0, none⟩ = some v := by simp
theorem RowS.snoc {row : List Int} {x : Int} (h : RowS row) (hl : row.length + 1 ≤ 30) (h0 : 0 ≤ x) (h1 : x ≤ 17) : RowS (row ++ [x]) :=
  ⟨by simp; omega, fun y hy => by
    rcases List.mem_append.1 hy with hy | hy
    · exact h.2 y hy
    · simp at hy; rw [hy]; exact ⟨h0, h1⟩⟩
theorem OM.weak {w : World} {B n c : Nat} {A : Option Addr} {M : List (List Int)} {vs : List Value} (h : OM w B A n c M vs) : OMW w B A n c M vs := ⟨h.out, h.len, h.row⟩
theorem OMW.adr {w : World} {B n c : Nat} {A : Option Addr} {M : List (List Int)} {vs : List Value} (h : OMW w B A n c M vs) : (A = none ∧ n = 0 ∧ c = 0) ∨ ∃ g, A = some ⟨g, 0, none⟩ ∧ B ≤ g ∧ g < w.heap.size := by
  rcases h.out.2 with ⟨h1, h2⟩ | ⟨g, cap, cur, hv, hb, hg, _⟩
  · simp only [Value.slice.injEq] at h1
    exact .inl ⟨h1.1, h1.2.1, h1.2.2⟩
  · simp only [Value.slice.injEq, true_and] at hv
    exact .inr ⟨g, hv.1, hb, (Array.getElem?_eq_some_iff.1 hg).1⟩
theorem OMW.keep {w w' : World} {B n c : Nat} {A : Option Addr} {M : List (List Int)} {vs : List Value} {S : Nat → Prop} (h : OMW w B A n c M vs) (k : Keep S w w') (hs : ∀ g, B ≤ g → g < w.heap.size → ¬ S g) : OMW w' B A n c M vs :=
  ⟨owns_keep h.out k (fun g hg => let ⟨a, b⟩ := h.out.lt g hg; hs g a b), h.len, fun r row hr => let ⟨A', c', h1, h2⟩ := h.row r row hr; ⟨A', c', h1, owns_keep h2 k (fun g hg => let ⟨a, b⟩ := h2.lt g hg; hs g a b)⟩⟩
theorem OMW.below {w w' : World} {B n c : Nat} {A : Option Addr} {M : List (List Int)} {vs : List Value} (h : OMW w B A n c M vs) (k : Below w.heap.size w w') : OMW w' B A n c M vs := h.keep (keep_of_below k) (fun _ _ _ h => h)
theorem OMW.mono {w : World} {B B' n c : Nat} {A : Option Addr} {M : List (List Int)} {vs : List Value} (h : OMW w B A n c M vs) (hB : B' ≤ B) : OMW w B' A n c M vs :=
  ⟨owns_mono h.out hB, h.len, fun r row hr => let ⟨a, b, g1, g2⟩ := h.row r row hr; ⟨a, b, g1, owns_mono g2 hB⟩⟩
/-- the slice of slices, as a law reads it -/
theorem OMW.ra {w : World} {B n c : Nat} {A : Option Addr} {M : List (List Int)} {vs : List Value} (h : OMW w B A n c M vs) : ∃ b, RA w A n b 0 M := by
  have hl := h.len
  have hvl : vs.length = n := by simpa using h.out.1
  rcases h.adr with ⟨rfl, rfl, rfl⟩ | ⟨g, rfl, hb, hg⟩
  · exact ⟨0, hl, by omega, by omega, by omega⟩
  · refine ⟨g, hl, fun _ => rfl, ?_, fun i hi => ?_⟩
    · rcases h.out.2 with ⟨h1, _⟩ | ⟨g', cap, cur, hv, _, _, hnc, hcm, _⟩
      · simp at h1
      · unfold maxLen at hcm; omega
    · have hrow : M[i]? = some (M[i]'(by omega)) := List.getElem?_eq_getElem (by omega)
      obtain ⟨A', c', h1, h2⟩ := h.row i _ hrow
      obtain ⟨b', hia⟩ := h2.ia
      have hc := World.ownsRow.cellAt h.out i (by omega)
      rw [h1] at hc
      exact ⟨_, A', c', b', 0, hrow, by rw [Nat.zero_add]; exact hc, hia⟩
/-- a row of a made matrix is replaced by another one -/
theorem OM.swapRow {w w1 : World} {B g n c : Nat} {M : List (List Int)} {vs : List Value} (h : OM w B (some ⟨g, 0, none⟩) n c M vs) {r : Nat} {row : List Int} {A0 : Option Addr} {c0 : Nat} (hv : vs[r]? = some (Value.slice A0 row.length c0)) (hr : M[r]? = some row)
    (hI0 : OI w B A0 row.length c0 row) (hk : Keep (fun q => (Value.slice A0 row.length c0).ownBlock = some q) w w1) {new : List Int} {A' : Option Addr} {c' : Nat} (hI : OI w1 B A' new.length c' new) :
    OMW (w1.setCell ⟨g, r, none⟩ (.slice A' new.length c')) B (some ⟨g, 0, none⟩) n c (M.set r new) (vs.set r (.slice A' new.length c')) := by
  have hvl := h.vlen
  have hM := h.len
  have hrl : r < M.length := (List.getElem?_eq_some_iff.1 hr).1
  have ho1 : w1.ownsRow B 30 1 (.slice (some ⟨g, 0, none⟩) n c) n vs := owns_keep h.out hk (fun q hq hs => block_elem h.out hI0 (by decide) q hq hs)
  have hsk := setCell_keep w1 ⟨g, r, none⟩ (.slice A' new.length c')
  have far : ∀ (A2 : Option Addr) (m c2 : Nat) (xs : List Int), OI w1 B A2 m c2 xs → OI (w1.setCell ⟨g, r, none⟩ (.slice A' new.length c')) B A2 m c2 xs := fun A2 m c2 xs hx =>
    owns_keep hx hsk (fun q hq hs => block_elem hx ho1 (by decide) q hq (by rw [hs]; rfl))
  refine ⟨(World.ownsRow.stored ho1 r _).1, by simp [hM], fun q row' hq => ?_⟩
  by_cases e : q = r
  · subst e
    rw [List.getElem?_set_self hrl] at hq
    obtain rfl := Option.some.inj hq
    exact ⟨A', c', List.getElem?_set_self (by omega), far _ _ _ _ hI⟩
  · rw [List.getElem?_set_ne (fun e' => e e'.symm)] at hq
    obtain ⟨A2, c2, g1, g2⟩ := h.row q row' hq
    refine ⟨A2, c2, by rw [List.getElem?_set_ne (fun e' => e e'.symm)]; exact g1, far _ _ _ _ (owns_keep g2 hk (fun k hk' hs => ?_))⟩
    rcases Nat.lt_or_gt_of_ne e with hh | hh
    · rcases h.apart q r _ _ hh g1 hv with h1 | h1
      · rw [hk'] at h1; simp at h1
      · exact h1 (by rw [hk', hs])
    · rcases h.apart r q _ _ hh hv g1 with h1 | h1
      · rw [hs] at h1; simp at h1
      · exact h1 (by rw [hk', hs])
theorem OMW.single {w : World} {B L g : Nat} {A : Option Addr} {c : Nat} {row : List Int} (h : OI w B A L c row) (hL : row.length = L) (hB : B ≤ w.heap.size) (hg : g = w.heap.size) : OMW (w.alloc (.cells #[.slice A L c] 30)) B (some ⟨g, 0, none⟩) 1 1 [row] [.slice A L c] := by
  subst hL hg
  refine ⟨World.ownsRow_lit (size := 1) w #[.slice A row.length c] 1 hB (by decide) (by simp), rfl, fun r row' hr => ?_⟩
  match r, hr with
  | 0, hr =>
    simp at hr; subst hr
    exact ⟨A, c, rfl, World.ownsRow.alloc h _⟩
theorem OM.mono0 {w : World} {B B' n c : Nat} {A : Option Addr} {M : List (List Int)} {vs : List Value} (h : OM w B A n c M vs) (hB : B' ≤ B) : OM w B' A n c M vs :=
  ⟨owns_mono h.out hB, h.len, fun r row hr => let ⟨a, b, g1, g2⟩ := h.row r row hr; ⟨a, b, g1, owns_mono g2 hB⟩, h.apart⟩
theorem OM.pushK {w w1 w2 : World} {B n c : Nat} {A : Option Addr} {M : List (List Int)} {vs : List Value} {T : Nat → Prop} (h : OM w B A n c M vs) (hk0 : Keep T w w1) (hT : ∀ g, B ≤ g → g < w.heap.size → ¬ T g) {row : List Int} {A1 : Option Addr} {c1 : Nat}
    (hI : OI w1 w.heap.size A1 row.length c1 row) {A' : Option Addr} {c' : Nat} (ho : w2.ownsRow B 30 1 (.slice A' (n + 1) c') (n + 1) (vs ++ [.slice A1 row.length c1])) (hk : Keep (fun k => (Value.slice A n c).ownBlock = some k) w1 w2) (hB : B ≤ w.heap.size) :
    OM w2 B A' (n + 1) c' (M ++ [row]) (vs ++ [.slice A1 row.length c1]) := by
  have h1 := h.keep hk0 hT
  have hvl := h.vlen
  have hM := h.len
  have keepI : ∀ (A2 : Option Addr) (m c2 : Nat) (xs : List Int), OI w1 B A2 m c2 xs → OI w2 B A2 m c2 xs := fun A2 m c2 xs hx => owns_keep hx hk (fun g hg hs => block_elem hx h1.out (by decide) g hg hs)
  refine ⟨ho, by simp [hM], fun r row' hr => ?_, fun r s u u' hrs hu hu' => ?_⟩
  · by_cases e : r = n
    · subst e
      rw [List.getElem?_append_right (by omega)] at hr
      simp [hM] at hr
      subst hr
      exact ⟨A1, c1, by rw [List.getElem?_append_right (by omega)]; simp [hvl], keepI _ _ _ _ (owns_mono hI hB)⟩
    · have hlt : r < n := by
        have := (List.getElem?_eq_some_iff.1 hr).1
        simp [hM] at this; omega
      rw [List.getElem?_append_left (by omega)] at hr
      obtain ⟨A2, c2, g1, g2⟩ := h1.row r row' hr
      exact ⟨A2, c2, by rw [List.getElem?_append_left (by omega)]; exact g1, keepI _ _ _ _ g2⟩
  · by_cases e : s = n
    · subst e
      rw [List.getElem?_append_right (by omega)] at hu'
      simp [hvl] at hu'
      subst hu'
      rw [List.getElem?_append_left (by omega)] at hu
      rcases ho' : u.ownBlock with _ | g
      · exact .inl ho'
      · right
        rw [ho']
        intro e2
        have hf := (h.foot r u g hu ho').2
        rcases hI.adr with ⟨rfl, _, _⟩ | ⟨g', rfl, hg', _⟩
        · simp [Value.ownBlock] at e2
        · simp only [Value.ownBlock, Option.some.injEq] at e2
          omega
    · have hs' : s < n := by
        have := (List.getElem?_eq_some_iff.1 hu').1
        simp [hvl] at this; omega
      rw [List.getElem?_append_left (by omega)] at hu hu'
      exact h.apart r s u u' hrs hu hu'
set_option maxRecDepth 100000 in
set_option maxHeartbeats 1600000 in
theorem mat_any (rb n c cb co N : Nat) (A : Option Addr) (p m : Int) (rows cols : Nat) (w : World) (h : Rd w rb A n c cb co N) (hN : N ≤ 900000) (hp : 0 ≤ p) (hp' : p ≤ 17) (hr : 1 ≤ rows) (hr' : rows ≤ 20) (hc : 1 ≤ cols) (hc' : cols ≤ 20) (hm : 1 ≤ m) (hm' : m ≤ 1000000) :
    Calls Try.prog 50 #[.pointer (some ⟨rb, 0, none⟩), .int .i64 p, .int .i64 (rows : Int), .int .i64 (cols : Int), .int .i64 m] w (MatPost rb n c cb co (N + 1010) A w) := by
  have hrb := h.lt
  have hcb := fun hn => h.ltc hn
  have hmax : 1 ≤ max p 1 ∧ max p 1 ≤ 17 := by omega
  have hmk := run_make_row' (P := Try.prog) 30 3 (.int .i64 0) 8 Try.underlying30 infoInt rfl .i64 .i64 9 (by omega) (by omega)
  have h9 : ((9 : Nat) : Int) = 9 := rfl
  simp only [h9] at hmk
  clear h9
  have HR0 := Lib.hid h
  have HCB := Lib.hid hcb
  clear h hcb
  go_enter Try.func50, Try.ntmps50
  go_wp2_with (fail)
  go_loopw [11, 12] (fun v i wr => ∃ (k : Nat) (A1 : Option Addr) (c1 : Nat) (M : List (List Int)) (vs : List Value), k ≤ rows ∧ i = .int .i64 k ∧ v = .slice A1 k c1 ∧ OM wr w.heap.size A1 k c1 M vs ∧ Rd wr rb A n c cb co (N + k * 50) ∧ Keep (Drw rb w.heap.size) w wr ∧ Hid (∀ row ∈ M, RowS row ∧ row.length = cols)) (fun _ i _ => rows - (intOf i).toNat)
  case atStart => exact ⟨0, _, _, [], [], by omega, rfl, rfl, OM.empty w, (HR0.out.alloc _).mono (by omega), ((Keep.refl _ _).alloc _), fun row h => by simp at h⟩
  case round =>
    obtain ⟨k, A1, c1, M, vs, hk, rfl, rfl, hom, hrd, hkp, hrs⟩ := hrel
    obtain ⟨wo, rfl⟩ : ∃ wo : World, wo = wr := ⟨_, rfl⟩
    have hs0 := hkp.size
    have HOM := Lib.hid hom
    have HRD := Lib.hid hrd
    have HKP := Lib.hid hkp
    clear hom hrd hkp
    by_cases hlt : k < rows
    · go_wp2_with (fail)
      go_loopw [13, 14] (fun v j wi => ∃ (q : Nat) (A2 : Option Addr) (c2 : Nat) (row : List Int), q ≤ cols ∧ j = .int .i64 q ∧ v = .slice A2 q c2 ∧ OI wi wo.heap.size A2 q c2 row ∧ Rd wi rb A n c cb co (N + k * 50 + 2 * q) ∧ Keep (Drw rb wo.heap.size) wo wi ∧ Hid (RowS row)) (fun _ j _ => cols - (intOf j).toNat)
      case atStart => exact ⟨0, _, _, [], by omega, rfl, rfl, OI.empty wo, (HRD.out.alloc _), ((Keep.refl _ _).alloc _), ⟨by simp, fun x h => by simp at h⟩⟩
      case round =>
        obtain ⟨q, A2, c2, row, hq, rfl, rfl, hown, hrd, hki, hrow⟩ := hrel
        have hsi := hki.size
        have hrl := hown.len
        by_cases hlq : q < cols
        · have HO := Lib.hid hown
          have HKI := Lib.hid hki
          have HRD2 := Lib.hid hrd
          clear hown hki hrd
          go_wp2_with (fail)
          all_goals
            refine (pick_any rb n c cb co _ A _ _ HRD2.out (by omega)).mono ?_
            rintro e w2 ⟨j1, rfl, hj1, hR2, hK2⟩
            have hj1 := hj1 (by omega)
            go_wp2_with (fail)
            refine (pick_any rb n c cb co _ A _ _ hR2 (by omega)).mono ?_
            rintro e w3 ⟨j2, rfl, hj2, hR3, hK3⟩
            have hj2 := hj2 (by omega)
            have hmb := mul_bd2 (x := (j1 : Int)) (y := (j2 : Int)) (by omega) (by omega) (by omega) (by omega)
            have hk3 := hK2.trans hK3
            have hO3 : OI w3 wo.heap.size A2 q c2 row := owns_keep HO.out hk3 (fun g hg hs => by have := (HO.out.lt g hg).1; omega)
            have hs3 := hk3.size
            have HO3 := Lib.hid hO3
            have HR3 := Lib.hid hR3
            have HK3 := Lib.hid (HKI.out.trans hk3.drwR)
            clear hR2 hR3 hK2 hK3 hk3 hO3
            go_wp2_with (at_builtin; refine wpList_app_int rfl (.tmp 27) (.tmp 39) rfl wo.heap.size A2 q c2 row rfl (HO3.out.alloc _) _ _ _ rfl (cellNew _ _ _) (by omega) ?_ ?_)
            · simp; omega
            · intro A4 c4 w4 hI4 hK4
              have HI4 := Lib.hid hI4
              have hst : ∀ g, (Value.slice A2 q c2).ownBlock = some g → wo.heap.size ≤ g := fun g hg => ((HO3.out).lt g hg).1
              have HR4 := Lib.hid ((HR3.out.alloc _).far hK4 (B := wo.heap.size) (by omega) (fun hn => Nat.lt_of_lt_of_le (HCB.out hn) (by omega)) hst)
              have HK4 := Lib.hid ((HK3.out.alloc _).trans (hK4.drwB hst))
              clear hI4 hK4 hst
              go_wp2_with (fail)
              go_roundw
              case rel => exact ⟨q + 1, A4, c4, _, by omega, by go_num, rfl, HI4.out, HR4.out.mono (by omega), HK4.out, hrow.out.snoc (by omega) (by first | exact Int.emod_nonneg _ (by omega) | decide) (by first | decide | (have := Int.emod_lt_of_pos ((j1 : Int) * (j2 : Int) / 2) (show 0 < p by omega); omega))⟩
              case measure => simp [intOf]; omega
        · obtain rfl : q = cols := by omega
          have HO := Lib.hid hown
          have HKI := Lib.hid hki
          have HRD2 := Lib.hid hrd
          have HLR := Lib.hid hrl
          clear hown hki hrd
          by_cases hk0 : k = 0
          · subst hk0
            have HKW := HKI
            have HIW := HO
            have HRW := HRD2
            have HSR := Lib.hid hrow.out
            have hOW : OM wr w.heap.size A1 0 c1 M vs := HOM.out.keep HKW.out (fun g h1 h2 h3 => by rcases h3 with h3 | h3 <;> omega)
            have HOW := Lib.hid hOW
            have hsW := HKW.out.size
            clear hOW
            go_wp2_with (at_builtin; refine wpList_app_row rfl (.tmp 56) (.tmp 58) rfl w.heap.size A1 0 c1 vs rfl (World.ownsRow.alloc HOW.out.out _) A2 q c2 _ _ rfl (cellNew _ _ _) (by omega) ?_ ?_)
            · simp; omega
            · intro A6 c6 w6 ho6 hK6
              have hst : ∀ g, (Value.slice A1 0 c1).ownBlock = some g → w.heap.size ≤ g := fun g hg => ((HOW.out).out.lt g hg).1
              have hp := OM.pushK (row := row) (A1 := A2) (c1 := c2) HOM.out (HKW.out.alloc (.cells #[.slice A2 q c2] 30)) (fun g h1 h2 h3 => by rcases h3 with h3 | h3 <;> omega) (by rw [HLR.out]; exact HIW.out.alloc _) (by rw [HLR.out]; exact ho6) hK6 hs0
              have HP := Lib.hid hp
              have HK6 := Lib.hid (HKP.out.trans (((HKW.out.alloc (.cells #[.slice A2 q c2] 30)).mono (T := Drw rb w.heap.size) (fun g _ hg => hg.mono hs0)).trans (hK6.drwB hst)))
              have HR6 := Lib.hid ((HRW.out.alloc _).far hK6 (B := w.heap.size) (by omega) HCB.out hst)
              have HRS := Lib.hid (show ∀ row' ∈ M ++ [row], RowS row' ∧ row'.length = q from fun row' h => by
                rcases List.mem_append.1 h with h | h
                · exact hrs.out row' h
                · simp at h; rw [h]; exact ⟨HSR.out, HLR.out⟩)
              clear hp ho6 hK6 hst
              go_wp2_with (fail)
              go_roundw
              case rel => exact ⟨1, A6, c6, _, _, by omega, by go_num, rfl, HP.out, HR6.out.mono (by omega), HK6.out, HRS.out⟩
              case measure => simp [intOf]; omega
          · have hkp0 : 0 < k := by omega
            go_wp2_with (fail)
            refine (pick_any rb n c cb co _ A _ _ HRD2.out (by omega)).mono ?_
            rintro e w2 ⟨j3, rfl, hj3, hR2, hK2⟩
            have hj3 := hj3 (by omega)
            have hs2 := hK2.size
            by_cases hj0 : j3 = 0
            · have hb : ((j3 : Int) == 0) = true := by simp [hj0]
              have HR2 := Lib.hid hR2
              have HK2 := Lib.hid hK2
              clear hR2 hK2
              go_wp2_with (fail)
              refine (pick_any rb n c cb co _ A _ _ (HR2.out.alloc _) (by omega)).mono ?_
              rintro e w3 ⟨j4, rfl, hj4, hR3, hK3⟩
              have hj4 := hj4 (by omega)
              have hs3 := hK3.size
              have hs3' : w2.heap.size + 1 ≤ w3.heap.size := by simpa using hs3
              have hKX : Keep (Drw rb wo.heap.size) wo w3 := (HKI.out.trans ((HK2.out.drwR).trans (((Keep.refl _ _).alloc _).trans hK3.drwR)))
              have hOX : OM w3 w.heap.size A1 k c1 M vs := HOM.out.keep hKX (fun g h1 h2 h3 => by rcases h3 with h3 | h3 <;> omega)
              obtain ⟨bX, hRX⟩ := hOX.ra
              obtain ⟨row4, A4, c4, b4, o4, hrw4, hcw4, hI4⟩ := hRX.row j4 (by omega)
              obtain rfl := hRX.adr (by omega)
              have hE : OI w3 w2.heap.size (some ⟨w2.heap.size, 0, none⟩) 0 0 [] := owns_keep (OI.empty w2) hK3 (fun g hg hs => by simp [Value.ownBlock] at hg; omega)
              have HE := Lib.hid hE
              have HI4 := Lib.hid hI4
              have HKX := Lib.hid hKX
              have HR3 := Lib.hid hR3
              obtain ⟨hS4, hl4⟩ := hrs.out row4 (List.mem_of_getElem? hrw4)
              have HS4 := Lib.hid hS4
              have HL4 := Lib.hid hl4
              rw [hl4] at hcw4 hI4
              obtain rfl := hI4.adr (by omega)
              have HI4 := Lib.hid hI4
              rw [Nat.zero_add] at hcw4
              clear hE hI4 hR3 hK3 hKX hOX hRX hrw4 hS4 hl4
              go_wp2_with (at_builtin; refine wpList_app_ints rfl (.tmp 48) (.tmp 54) rfl w2.heap.size _ 0 0 [] rfl HE.out q c4 b4 o4 row4 rfl HI4.out (by omega) (by omega) ?_)
              intro A5 c5 w5 hI5 hK5
              have hst5 : ∀ g, (Value.slice (some ⟨w2.heap.size, 0, none⟩) 0 0).ownBlock = some g → wo.heap.size ≤ g := fun g hg => by simp [Value.ownBlock] at hg; omega
              have HKW := Lib.hid (HKX.out.trans (hK5.drwB hst5))
              have HIW := Lib.hid (show OI w5 wo.heap.size A5 q c5 row4 from owns_mono hI5 (by omega))
              have HRW := Lib.hid (HR3.out.far hK5 (B := wo.heap.size) (by omega) (fun hn => Nat.lt_of_lt_of_le (HCB.out hn) (by omega)) hst5)
              have HSR := HS4
              clear HLR
              have HLR := HL4
              clear hI5 hK5 hst5
              have hOW : OM w5 w.heap.size (some ⟨bX, 0, none⟩) k c1 M vs := HOM.out.keep HKW.out (fun g h1 h2 h3 => by rcases h3 with h3 | h3 <;> omega)
              have HOW := Lib.hid hOW
              have hsW := HKW.out.size
              clear hOW
              go_wp2_with (at_builtin; refine wpList_app_row rfl (.tmp 56) (.tmp 58) rfl w.heap.size (some ⟨bX, 0, none⟩) k c1 vs rfl (World.ownsRow.alloc HOW.out.out _) A5 q c5 _ _ rfl (cellNew _ _ _) (by omega) ?_ ?_)
              · simp; omega
              · intro A6 c6 w6 ho6 hK6
                have hst : ∀ g, (Value.slice (some ⟨bX, 0, none⟩) k c1).ownBlock = some g → w.heap.size ≤ g := fun g hg => ((HOW.out).out.lt g hg).1
                have hp := OM.pushK (row := row4) (A1 := A5) (c1 := c5) HOM.out (HKW.out.alloc (.cells #[.slice A5 q c5] 30)) (fun g h1 h2 h3 => by rcases h3 with h3 | h3 <;> omega) (by rw [HLR.out]; exact HIW.out.alloc _) (by rw [HLR.out]; exact ho6) hK6 hs0
                have HP := Lib.hid hp
                have HK6 := Lib.hid (HKP.out.trans (((HKW.out.alloc (.cells #[.slice A5 q c5] 30)).mono (T := Drw rb w.heap.size) (fun g _ hg => hg.mono hs0)).trans (hK6.drwB hst)))
                have HR6 := Lib.hid ((HRW.out.alloc _).far hK6 (B := w.heap.size) (by omega) HCB.out hst)
                have HRS := Lib.hid (show ∀ row' ∈ M ++ [row4], RowS row' ∧ row'.length = q from fun row' h => by
                  rcases List.mem_append.1 h with h | h
                  · exact hrs.out row' h
                  · simp at h; rw [h]; exact ⟨HSR.out, HLR.out⟩)
                clear hp ho6 hK6 hst
                go_wp2_with (fail)
                go_roundw
                case rel => exact ⟨k + 1, A6, c6, _, _, by omega, by go_num, rfl, HP.out, HR6.out.mono (by omega), HK6.out, HRS.out⟩
                case measure => simp [intOf]; omega
            · have hb : ((j3 : Int) == 0) = false := by simp [hj0]
              have HKW := Lib.hid (HKI.out.trans hK2.drwR)
              have HIW := Lib.hid (show OI w2 wo.heap.size A2 q c2 row from owns_keep HO.out hK2 (fun g hg hs => by have := (HO.out.lt g hg).1; omega))
              have HRW := Lib.hid hR2
              have HSR := Lib.hid hrow.out
              clear hR2 hK2
              have hOW : OM w2 w.heap.size A1 k c1 M vs := HOM.out.keep HKW.out (fun g h1 h2 h3 => by rcases h3 with h3 | h3 <;> omega)
              have HOW := Lib.hid hOW
              have hsW := HKW.out.size
              clear hOW
              go_wp2_with (at_builtin; refine wpList_app_row rfl (.tmp 56) (.tmp 58) rfl w.heap.size A1 k c1 vs rfl (World.ownsRow.alloc HOW.out.out _) A2 q c2 _ _ rfl (cellNew _ _ _) (by omega) ?_ ?_)
              · simp; omega
              · intro A6 c6 w6 ho6 hK6
                have hst : ∀ g, (Value.slice A1 k c1).ownBlock = some g → w.heap.size ≤ g := fun g hg => ((HOW.out).out.lt g hg).1
                have hp := OM.pushK (row := row) (A1 := A2) (c1 := c2) HOM.out (HKW.out.alloc (.cells #[.slice A2 q c2] 30)) (fun g h1 h2 h3 => by rcases h3 with h3 | h3 <;> omega) (by rw [HLR.out]; exact HIW.out.alloc _) (by rw [HLR.out]; exact ho6) hK6 hs0
                have HP := Lib.hid hp
                have HK6 := Lib.hid (HKP.out.trans (((HKW.out.alloc (.cells #[.slice A2 q c2] 30)).mono (T := Drw rb w.heap.size) (fun g _ hg => hg.mono hs0)).trans (hK6.drwB hst)))
                have HR6 := Lib.hid ((HRW.out.alloc _).far hK6 (B := w.heap.size) (by omega) HCB.out hst)
                have HRS := Lib.hid (show ∀ row' ∈ M ++ [row], RowS row' ∧ row'.length = q from fun row' h => by
                  rcases List.mem_append.1 h with h | h
                  · exact hrs.out row' h
                  · simp at h; rw [h]; exact ⟨HSR.out, HLR.out⟩)
                clear hp ho6 hK6 hst
                go_wp2_with (fail)
                go_roundw
                case rel => exact ⟨k + 1, A6, c6, _, _, by omega, by go_num, rfl, HP.out, HR6.out.mono (by omega), HK6.out, HRS.out⟩
                case measure => simp [intOf]; omega
    · obtain rfl : k = rows := by omega
      have HS := Lib.hid (show ∀ row ∈ M, RowS row from fun row h => (hrs.out row h).1)
      have HLC := Lib.hid (show ∀ row ∈ M, row.length = cols from fun row h => (hrs.out row h).2)
      have hML := HOM.out.len
      clear hrs
      go_wp2_with (fail)
      refine (odd_any rb n c cb co _ A m _ HRD.out (by omega) hm hm').mono ?_
      rintro e w2 ⟨bb, rfl, hR2, hK2⟩
      have hO2 : OM w2 w.heap.size A1 k c1 M vs := HOM.out.keep hK2 (fun g h1 h2 h3 => by omega)
      have HO2 := Lib.hid hO2
      have HR2 := Lib.hid hR2
      have HK2 := Lib.hid (HKP.out.trans hK2.drwR)
      clear hO2 hR2 hK2
      cases bb
      · go_wp2_with (fail)
        go_ret
        exact ⟨A1, c1, M, vs, by rw [hML]; rfl, by omega, HS.out, by rw [hML]; exact HO2.out.weak, HR2.out.mono (by omega), HK2.out⟩
      · go_wp2_with (fail)
        refine (pick_any rb n c cb co _ A _ _ HR2.out (by omega)).mono ?_
        rintro e w3 ⟨j, rfl, hj, hR3, hK3⟩
        have hj := hj (by omega)
        have hO3 : OM w3 w.heap.size A1 k c1 M vs := HO2.out.keep hK3 (fun g h1 h2 h3 => by omega)
        have hs3 := (HK2.out.trans hK3.drwR).size
        have HO3 := Lib.hid hO3
        have HR3 := Lib.hid hR3
        have HK3 := Lib.hid (HK2.out.trans hK3.drwR)
        clear hR3 hK3
        obtain ⟨g, hg⟩ : ∃ g, A1 = some ⟨g, 0, none⟩ := by
          rcases hO3.adr with ⟨_, h0, _⟩ | ⟨g, h1, _⟩
          · omega
          · exact ⟨g, h1⟩
        subst hg
        have hrow : M[0]? = some (M[0]'(by omega)) := List.getElem?_eq_getElem (by omega)
        obtain ⟨row0, hrow0⟩ : ∃ row0, M[0]'(by omega) = row0 := ⟨_, rfl⟩
        rw [hrow0] at hrow
        obtain ⟨A0, c0, hv0, hI0⟩ := hO3.row 0 row0 hrow
        have hc0 := World.ownsRow.cellAt hO3.out 0 (by omega)
        rw [hv0] at hc0
        have hf0 := World.ownsRow.frozenAt hO3.out 0
        have hlc := HLC.out row0 (List.mem_of_getElem? hrow)
        have hS0 := HS.out row0 (List.mem_of_getElem? hrow)
        have HS0 := Lib.hid hS0
        have HV0 := Lib.hid hv0
        have HRW0 := Lib.hid hrow
        have HI0 := Lib.hid hI0
        have HLC0 := Lib.hid hlc
        have hgo : g < w3.heap.size := (hO3.out.lt g rfl).2
        have hgB : w.heap.size ≤ g := (hO3.out.lt g rfl).1
        have hl30 : row0.length ≤ 30 := hS0.1
        rw [hlc] at hc0
        obtain ⟨b0, hIA0⟩ := hI0.ia
        rw [hlc] at hIA0
        obtain rfl := hIA0.adr (by omega)
        clear hO3 hrow0 hv0 hrow hI0 hlc hS0
        by_cases hj0 : j = 0
        · subst hj0
          go_wp2_with (fail)
          go_ret
          exact ⟨_, _, [], [], rfl, by simp, fun row h => by simp at h, ((OM.empty w3).mono0 hs3).weak, (HR3.out.alloc _).mono (by omega), HK3.out.alloc _⟩
        · by_cases hj1 : j = 1
          · subst hj1
            go_wp2_with (at_builtin; refine wpList_app_int rfl (.tmp 75) (.tmp 76) rfl w.heap.size _ cols c0 row0 rfl (by have h9 := HI0.out; rw [HLC0.out] at h9; exact h9.alloc _) 0 _ _ rfl (cellNew _ _ _) (by omega) ?_ ?_)
            · simp; omega
            · intro A5 c5 w5 hI5 hK5
              have hlen : (row0 ++ [(0 : Int)]).length = cols + 1 := by simp [HLC0.out]
              have hne : (Value.slice (some ⟨b0, 0, none⟩) cols c0).ownBlock ≠ some g := block_elem HO3.out.out HI0.out (by decide) g rfl
              have hc5 := hK5.cell (show (w3.alloc (.cells #[.int .i64 0] 3)).cell? ⟨g, 0, none⟩ = some (.slice (some ⟨b0, 0, none⟩) cols c0) by rw [World.cell?_alloc_lt _ _ _ hgo]; exact hc0) hne
              have hf5 : w5.frozen? ⟨g, 0, none⟩ = false := (hK5.frozen (p := ⟨g, 0, none⟩) (by simp; omega) hne).trans (World.ownsRow.frozenAt (World.ownsRow.alloc HO3.out.out (.cells #[.int .i64 0] 3)) 0)
              have hW := OM.swapRow (w1 := w5) (new := row0 ++ [0]) (A' := A5) (c' := c5) (HO3.out.below ((Below.refl _ _).alloc (Nat.le_refl _) (.cells #[.int .i64 0] 3))) HV0.out HRW0.out (World.ownsRow.alloc HI0.out _) (by rw [HLC0.out]; exact hK5) (by rw [hlen]; exact hI5)
              rw [hlen] at hW
              have hst : ∀ q, (Value.slice (some ⟨b0, 0, none⟩) cols c0).ownBlock = some q → w.heap.size ≤ q := fun q hq => (HI0.out.lt q (by simpa [Value.ownBlock] using hq)).1
              have hsk := setCell_keep w5 ⟨g, 0, none⟩ (.slice A5 (cols + 1) c5)
              have HW := Lib.hid hW
              have HRW := Lib.hid (((HR3.out.alloc _).far hK5 (B := w.heap.size) hrb HCB.out hst).far hsk (B := w.heap.size) hrb HCB.out (fun q hq => by rw [hq]; exact hgB))
              have HKW := Lib.hid (((HK3.out.alloc _).trans (hK5.drwB hst)).trans (hsk.drwB (fun q hq => by rw [hq]; exact hgB)))
              have HSW := Lib.hid (show ∀ row ∈ M.set 0 (row0 ++ [0]), RowS row from fun row h => by
                rcases List.mem_or_eq_of_mem_set h with h | h
                · exact HS.out row h
                · rw [h]; exact HS0.out.snoc (by rw [HLC0.out]; omega) (by decide) (by decide))
              clear hW hsk hI5 hK5 hst
              go_wp2_with (fail)
              go_ret
              exact ⟨_, _, _, _, by rw [List.length_set, hML]; rfl, by rw [List.length_set]; omega, HSW.out, by rw [List.length_set, hML]; exact HW.out, HRW.out.mono (by omega), HKW.out⟩
          · by_cases hj2 : j = 2
            · subst hj2
              obtain ⟨x0, hx0, hxc0⟩ := hIA0.cell 0 (by omega)
              have hf1 := World.ownsRow.frozenAt HI0.out 0
              rw [Nat.zero_add] at hxc0
              obtain ⟨hst0, _⟩ := World.ownsRow.stored HI0.out 0 (.int .i64 p)
              rw [ints_set] at hst0
              have hsk := setCell_keep w3 ⟨b0, 0, none⟩ (.int .i64 p)
              have hbB : w.heap.size ≤ b0 := (HI0.out.lt b0 rfl).1
              have hW := HO3.out.setRow (new := row0.set 0 p) HRW0.out HV0.out (by simp) hst0 (hsk.mono (fun q _ hq => by rw [hq]; rfl))
              have HW := Lib.hid hW
              have HRW := Lib.hid (HR3.out.far hsk (B := w.heap.size) hrb HCB.out (fun q hq => by rw [hq]; exact hbB))
              have HKW := Lib.hid (HK3.out.trans (hsk.drwB (fun q hq => by rw [hq]; exact hbB)))
              have HSW := Lib.hid (show ∀ row ∈ M.set 0 (row0.set 0 p), RowS row from fun row h => by
                rcases List.mem_or_eq_of_mem_set h with h | h
                · exact HS.out row h
                · rw [h]
                  refine ⟨by simp; exact HS0.out.1, fun y hy => ?_⟩
                  rcases List.mem_or_eq_of_mem_set hy with hy | hy
                  · exact HS0.out.2 y hy
                  · rw [hy]; exact ⟨hp, hp'⟩)
              clear hW hsk hst0
              go_wp2_with (fail)
              go_ret
              exact ⟨_, _, _, _, by rw [List.length_set, hML]; rfl, by rw [List.length_set]; omega, HSW.out, by rw [List.length_set, hML]; exact HW.out.weak, HRW.out.mono (by omega), HKW.out⟩
            · obtain rfl : j = 3 := by omega
              have hI9 : OI (w3.alloc (.cells (madeCells #[.int .i64 0] 9) 3)) w3.heap.size (some ⟨w3.heap.size, 0, none⟩) 9 9 (List.replicate 9 0) := made_ints w3 9 (by omega)
              have HW := Lib.hid (OMW.single (g := w3.heap.size + 1) (owns_mono hI9 hs3) (by simp) (by simp; omega) (by simp))
              clear hI9
              go_wp2_with (fail)
              go_ret
              exact ⟨_, _, [List.replicate 9 0], _, rfl, by simp, fun row h => by simp at h; rw [h]; exact ⟨by decide, by decide⟩, HW.out, ((HR3.out.alloc _).alloc _).mono (by omega), (HK3.out.alloc _).alloc _⟩
end Go.Proofs.Ytpelokdgjdljfab
