/-
  The contract of the function that draws equations.
-/
import Derived.Test.YtpelokdgjdljfabDrawT
import Derived.Test.YtpelokdgjdljfabApp
import Derived.Test.YtpelokdgjdljfabSolve
import Derived.OwnWalk
namespace Go.Proofs.Ytpelokdgjdljfab
open Go.RowKit
def PMW (w : World) (e : Ending) (w' : World) : Prop :=
  ∃ (p : Int) (Ao : Option Addr) (co : Nat) (M : List (List Int)) (Aw : Option Addr) (cw : Nat) (want : List Int), e = .returned (.tuple #[.int .i64 p, .slice Ao M.length co, .slice Aw M.length cw]) ∧ (0 ≤ p ∧ p ≤ 17) ∧ DM w' w.heap.size Ao co M ∧ OI w' w.heap.size Aw M.length cw want ∧ Below w.heap.size w w'
theorem OI.iaAt {w : World} {B g n c : Nat} {xs : List Int} (h : OI w B (some ⟨g, 0, none⟩) n c xs) (hn : 0 < n) : IA w (some ⟨g, 0, none⟩) n g 0 xs := by
  obtain ⟨b, h1⟩ := h.ia
  have e := h1.adr hn
  obtain rfl : g = b := by simpa using e
  exact h1
theorem DM.raAt {w w0 : World} {B n b c : Nat} {A : Option Addr} {M : List (List Int)} (h : DM w B A c M) (h0 : RA w0 A n b 0 M) (hn : 0 < n) : RA w A n b 0 M := by
  obtain ⟨b', h1⟩ := h.ra
  have e1 := h0.adr hn
  rw [h0.len] at h1
  have e2 := h1.adr hn
  rw [e1] at e2
  obtain rfl : b = b' := by simpa using e2
  exact h1
theorem drawMatSolve (a : Option Addr) (len cap : Nat) (zs : List Int) (w : World) (h : IsRow .u8 w a len cap zs) :
    Calls Try.prog 39 #[.slice a len cap] w (PMW w) := by
  go_enter Try.func39, Try.ntmps39
  go_wp2_with (fail)
  refine (open_any a len cap zs w h).mono ?_
  rintro e w1 ⟨rb, A, n, c, cb, co, rfl, hR, hB, hrb, hcb⟩
  go_wp2_with (fail)
  refine (any_any rb n c cb co 0 A _ hR (by omega)).mono ?_
  rintro e w2 ⟨p, Ao, co', M, rfl, ⟨hp0, hp1⟩, hD, hR2, hK⟩
  have hML := hD.few
  have hcap := hD.cap
  obtain ⟨b, hRA⟩ := hD.ra
  have hs1 := hB.size
  have hs2 := hK.size
  have hB2 := hB.trans (hK.drwBelow hs1 hrb hs1)
  have hrl := hR2.lt
  have hcl : 0 < n → cb < w2.heap.size := hR2.ltc
  obtain ⟨nm, hnm⟩ : ∃ n, M.length = n := ⟨_, rfl⟩
  have hrb1 := hR.lt
  have HD := Lib.hid hD
  have HRA := Lib.hid hRA
  clear hD hRA hR hK h
  go_wp2_with (fail)
  go_loopw [8, 9] (fun v i wr => ∃ (k : Nat) (A' : Option Addr) (c' : Nat) (xs : List Int), k ≤ nm ∧ i = .int .i64 k ∧ v = .slice A' k c' ∧ OI wr w2.heap.size A' k c' xs ∧ Rd wr rb A n c cb co (1020 + 2 * k) ∧ Keep (Drw rb w2.heap.size) w2 wr) (fun _ i _ => nm - (intOf i).toNat)
  case atStart => exact ⟨0, _, _, [], by omega, rfl, rfl, OI.empty w2, (hR2.alloc _).mono (by omega), (Keep.refl _ _).alloc _⟩
  case round =>
    obtain ⟨k, A', c', xs, hk, rfl, rfl, hown, hRd, hkeep⟩ := hrel
    have hsk := hkeep.size
    by_cases hlt : k < nm
    · go_wp2_with (fail)
      refine (num_any rb n c cb co _ A p 60 _ hRd (by omega) (by omega) (by omega) (by omega) (by omega)).mono ?_
      rintro e w3 ⟨x, rfl, _, hRd3, hK3⟩
      have hO3 := owns_keep hown hK3 (fun g hg hh => by have := (hown.lt g hg).1; omega)
      have hs3 := hK3.size
      have HO := Lib.hid hO3
      have HR3 := Lib.hid hRd3
      have HK := Lib.hid (hkeep.trans hK3.drwR)
      clear hown hRd hkeep hK3 hO3 hRd3
      go_wp2_with (at_builtin; refine wpList_app_int rfl (.tmp 29) (.tmp 33) rfl w2.heap.size A' k c' xs rfl (World.ownsRow.alloc HO.out _) x _ _ rfl ?_ (by omega) ?_ ?_)
      · simp
      · simp; omega
      · intro A3 c3 w4 hI4 hK4
        have hR4 := (HR3.out.alloc (.cells #[.int .i64 x] 3)).keep hK4 (fun hh => by have := (HO.out.lt rb hh).1; omega) (fun h0 hh => by have := (HO.out.lt cb hh).1; have := hcl h0; omega)
        have HI4 := Lib.hid hI4
        have HR4 := Lib.hid hR4
        have HK4 := Lib.hid (HK.out.trans (((Keep.refl _ _).alloc (.cells #[.int .i64 x] 3)).trans (hK4.mono (fun g _ hg => Or.inr (HO.out.lt g hg).1))))
        clear hI4 hR4 hK4
        go_wp2_with (fail)
        go_roundw
        case rel => exact ⟨k + 1, _, _, _, by omega, by go_num, rfl, HI4.out, HR4.out.mono (by omega), HK4.out⟩
        case measure => simp [intOf]; omega
    · obtain rfl : k = nm := by omega
      have HO := Lib.hid hown
      have HR3 := Lib.hid hRd
      have HK := Lib.hid hkeep
      clear hown hRd hkeep
      go_wp2_with (fail)
      refine (pick_any rb n c cb co _ A _ _ HR3.out (by omega)).mono ?_
      rintro e w3 ⟨j1, rfl, hj1, hR4, hK4⟩
      have hs3 := hK4.size
      have hO3 := owns_keep HO.out hK4 (fun g hg hh => by have := (HO.out.lt g hg).1; omega)
      have HO3 := Lib.hid hO3
      have HR4 := Lib.hid hR4
      have HK4 := Lib.hid (HK.out.trans hK4.drwR)
      clear hO3 hR4 hK4
      have HD3 := Lib.hid (HD.out.keep HK4.out (fun g h1 h2 h3 => by rcases h3 with h3 | h3 <;> omega))
      by_cases hj : j1 = 0
      · subst hj
        obtain ⟨b3, hRA3⟩ := HD3.out.ra
        rw [hnm] at hRA3
        have HRA3 := Lib.hid hRA3
        clear hRA3
        go_wp2_with (fail)
        refine (specMatValid p Ao k co' b3 0 M _ HRA3.out).mono ?_
        rintro e w4 ⟨rfl, hm4⟩
        have HK5 := Lib.hid (HK4.out.trans (show Keep (Drw rb w2.heap.size) w3 w4 by obtain ⟨m, hm⟩ := hm4; rw [hm]; exact drewN_keep w3 m))
        have HD5 := Lib.hid (HD3.out.below (below_drawn (Below.refl _ _) hm4))
        have HO5 := Lib.hid (owns_below HO3.out (below_drawn (Below.refl _ _) hm4))
        have HRA5 := Lib.hid (HRA3.out.drewN hm4)
        have HR5 := Lib.hid (HR4.out.keep (keep_of_below (below_drawn (Below.refl _ _) hm4)) (fun h => h) (fun _ h => h))
        have hs5 := HK5.out.size
        rcases hv : matB p M
        · clear hv
          go_wp2_with (fail)
          go_ret3
          exact ⟨_, _, _, _, _, _, xs, by rw [hnm]; rfl, ⟨hp0, hp1⟩, HD5.out.mono hs1, by rw [hnm]; exact owns_mono HO5.out (by omega), hB2.trans (HK5.out.drwBelow (by omega) hrb (by omega))⟩
        · obtain ⟨hn1, hn8, hl1, hl8, hrows⟩ := matB_true hv
          have hp := prime_ge (prime_of_mat hv)
          obtain ⟨l, hl⟩ : ∃ l, (M.headD []).length = l := ⟨_, rfl⟩
          rw [hl] at hl1 hl8 hrows
          rw [hnm] at hn1 hn8
          have HRW := Lib.hid hrows
          have HL := Lib.hid hl
          have HP := Lib.hid (prime_of_mat hv)
          clear hrows hl hv
          obtain rfl := HRA5.out.adr (by omega)
          have hs5 := HK5.out.size
          have hcl4 : 0 < n → cb < w4.heap.size := fun h => by have := hcl h; omega
          go_wp2_with (fail)
          go_loopw [10, 11] (fun v i wr => ∃ (j : Nat) (Ax : Option Addr) (cx : Nat) (ys : List Int), j ≤ l ∧ i = .int .i64 j ∧ v = .slice Ax j cx ∧ OI wr w4.heap.size Ax j cx ys ∧ Hid (∀ y ∈ ys, numB p y = true) ∧ Rd wr rb A n c cb co (1021 + 2 * k + j) ∧ Keep (Drw rb w4.heap.size) w4 wr) (fun _ i _ => l - (intOf i).toNat)
          case atStart => exact ⟨0, _, _, [], by omega, rfl, rfl, OI.empty w4, Lib.hid (fun y hy => by simp at hy), (HR5.out.alloc _).mono (by omega), (Keep.refl _ _).alloc _⟩
          case round =>
            obtain ⟨j, Ax, cx, ys, hj, rfl, rfl, hown, hyb, hRd, hkeep⟩ := hrel
            have hsk := hkeep.size
            have hDr := HD5.out.keep hkeep (fun g h1 h2 h3 => by rcases h3 with h3 | h3 <;> omega)
            have hRr := hDr.raAt HRA5.out (by omega)
            obtain ⟨row0, A0, c0, b0, o0, hr0, hc0, hI0⟩ := hRr.row 0 (by omega)
            have hrl0 := HL.out
            rw [headD_of hr0] at hrl0
            rw [Nat.zero_add, hrl0] at hc0
            have HDr := Lib.hid hDr
            have HRr := Lib.hid hRr
            clear hr0 hI0 hrl0 hDr hRr
            by_cases hlt2 : j < l
            · go_wp2_with (fail)
              refine (pick_any rb n c cb co _ A p _ hRd (by omega)).mono ?_
              rintro e w6 ⟨y, rfl, hy, hRd3, hK3⟩
              have hy := hy (by omega)
              have hO3 := owns_keep hown hK3 (fun g hg hh => by have := (hown.lt g hg).1; omega)
              have hs3 := hK3.size
              have HO := Lib.hid hO3
              have HR3 := Lib.hid hRd3
              have HK := Lib.hid (hkeep.trans hK3.drwR)
              clear hown hRd hkeep hK3 hO3 hRd3 hc0
              go_wp2_with (at_builtin; refine wpList_app_int rfl (.tmp 52) (.tmp 56) rfl w4.heap.size Ax j cx ys rfl (World.ownsRow.alloc HO.out _) y _ _ rfl ?_ (by omega) ?_ ?_)
              · simp
              · simp; omega
              · intro A3 c3 w7 hI4 hK4
                have hR4 := (HR3.out.alloc (.cells #[.int .i64 (y : Int)] 3)).keep hK4 (fun hh => by have := (HO.out.lt rb hh).1; omega) (fun h0 hh => by have := (HO.out.lt cb hh).1; have := hcl4 h0; omega)
                have HI4 := Lib.hid hI4
                have HR4' := Lib.hid hR4
                have HK4' := Lib.hid (HK.out.trans (((Keep.refl _ _).alloc (.cells #[.int .i64 (y : Int)] 3)).trans (hK4.mono (fun g _ hg => Or.inr (HO.out.lt g hg).1))))
                have HY := Lib.hid (show ∀ z ∈ ys ++ [(y : Int)], numB p z = true from fun z hz => by
                  rcases List.mem_append.1 hz with hz | hz
                  · exact hyb.out z hz
                  · simp at hz; rw [hz]; exact numB_mk HP.out (by omega) (by omega))
                clear hI4 hR4 hK4
                go_wp2_with (fail)
                go_roundw
                case rel => exact ⟨j + 1, _, _, _, by omega, by go_num, rfl, HI4.out, HY, HR4'.out.mono (by omega), HK4'.out⟩
                case measure => simp [intOf]; omega
            · obtain rfl : j = l := by omega
              have HOX := Lib.hid hown
              have HKX := Lib.hid hkeep
              have HOW := Lib.hid (owns_keep HO5.out hkeep (fun g hg hh => by have := (HO5.out.lt g hg); rcases hh with hh | hh <;> omega))
              clear hown hRd hkeep
              obtain ⟨w8, rfl⟩ : ∃ w8 : World, w8 = wr := ⟨_, rfl⟩
              obtain ⟨gw, hgw, hBw, hBw2⟩ : ∃ g, A' = some ⟨g, 0, none⟩ ∧ w2.heap.size ≤ g ∧ g < w4.heap.size := by
                rcases (show OI w4 w2.heap.size A' k c' xs from HO5.out).adr with ⟨_, h0, _⟩ | ⟨g, h1, h2, h3⟩
                · omega
                · exact ⟨g, h1, h2, h3⟩
              subst hgw
              have hyl := (show OI w8 w4.heap.size Ax j cx ys from HOX.out).len
              obtain ⟨bx, hIX⟩ := (show OI w8 w4.heap.size Ax j cx ys from HOX.out).ia
              obtain rfl := hIX.adr (by omega)
              have hbx : w4.heap.size ≤ bx := (HOX.out.lt bx rfl).1
              have HYL := Lib.hid hyl
              clear hIX hyl
              go_wp2_with (fail)
              go_loopw [12] (fun i wr => ∃ (q : Nat) (ws : List Int), q ≤ k ∧ i = .int .i64 q ∧ OI wr w2.heap.size (some ⟨gw, 0, none⟩) k c' ws ∧ Keep (· = gw) w8 wr) (fun i _ => k - (intOf i).toNat)
              case atStart => exact ⟨0, xs, by omega, rfl, HOW.out, Keep.refl _ _⟩
              case round =>
                obtain ⟨q, ws, hq, rfl, hown, hkeep⟩ := hrel
                obtain ⟨wb, rfl⟩ : ∃ wb : World, wb = wr := ⟨_, rfl⟩
                have hsb := hkeep.size
                have hKt : Keep (Drw rb w2.heap.size) w2 wb := HK5.out.trans ((HKX.out.mono (fun g _ h => h.mono (by omega))).trans (hkeep.mono (fun g _ h => Or.inr (by rw [h]; exact hBw))))
                have hDq := HD.out.keep hKt (fun g h1 h2 h3 => by rcases h3 with h3 | h3 <;> omega)
                have hRq := hDq.raAt HRA5.out (by omega)
                by_cases hlq : q < k
                · obtain ⟨rq, A2, c2, b2, o2, hr2, hc2, hI2⟩ := hRq.row q hlq
                  rw [Nat.zero_add] at hc2
                  obtain ⟨hrl2, hrv2⟩ := HRW.out rq (List.mem_of_getElem? hr2)
                  rw [hrl2] at hc2 hI2
                  obtain rfl := hI2.adr (by omega)
                  have hIX := (show OI wb w4.heap.size (some ⟨bx, 0, none⟩) j cx ys from owns_keep HOX.out hkeep (fun g h1 h2 => by
                    have h1 : bx = g := by simpa [Value.ownBlock] using h1
                    omega)).iaAt (by omega)
                  have HI2 := Lib.hid hI2
                  have HC2 := Lib.hid hc2
                  have HRV2 := Lib.hid hrv2
                  have HRL2 := Lib.hid hrl2
                  have HOW2 := Lib.hid hown
                  have HKW := Lib.hid hkeep
                  have HIX2 := Lib.hid hIX
                  clear hI2 hc2 hrv2 hr2 hrl2 hown hkeep hDq hRq hKt hIX
                  go_wp2_with (fail)
                  go_loopw [13, 14] (fun s i wr => ∃ t : Nat, t ≤ j ∧ i = .int .i64 t ∧ s = .int .i64 (dot (rq.take t) (ys.take t)) ∧ Hid (∃ m, wr = wb.drewN m)) (fun _ i _ => j - (intOf i).toNat)
                  case atStart => exact ⟨0, by omega, rfl, by simp [dot], 0, rfl⟩
                  case round =>
                    obtain ⟨t, ht, rfl, rfl, hw3⟩ := hrel
                    have hb3 := dot_take_bd hp.2 rq ys t (by omega) HRV2.out hyb.out
                    have hc2 := (keep_of_below (below_drawn (Below.refl _ _) hw3.out)).cell HC2.out (fun h => h)
                    by_cases hlj : t < j
                    · obtain ⟨x, hx, hxc⟩ := (HI2.out.drewN hw3.out).cell t hlj
                      obtain ⟨y, hy, hyc⟩ := (HIX2.out.drewN hw3.out).cell t hlj
                      rw [Nat.zero_add] at hyc
                      have hxb := numB_bd (HRV2.out x (List.mem_of_getElem? hx))
                      have hyb2 := numB_bd (hyb.out y (List.mem_of_getElem? hy))
                      have hmb := mul_bd hxb.1 (by omega) hyb2.1 (by omega)
                      have HD2 := Lib.hid (dot_take rq ys t x y hx hy)
                      clear hx hy
                      go_wp2_with (fail)
                      go_quiet (fail)
                      go_wp2_with (fail)
                      go_roundw
                      case rel => exact ⟨t + 1, by omega, by go_num, by rw [HD2.out], drewN_more hw3.out _⟩
                      case measure => simp [intOf]; omega
                    · obtain rfl : t = j := by omega
                      obtain ⟨S, hS⟩ : ∃ S, dot (rq.take t) (ys.take t) = S := ⟨_, rfl⟩
                      rw [hS] at hb3 ⊢
                      have hown := owns_below HOW2.out (below_drawn (Below.refl _ _) hw3.out)
                      have hcell := World.ownsRow.cellAt hown q (by omega)
                      obtain ⟨v0, hv0⟩ : ∃ v0, wr.cell? ⟨gw, q, none⟩ = some v0 := by
                        rw [hcell]; exact ⟨_, List.getElem?_eq_getElem (by have := (show OI wb w2.heap.size (some ⟨gw, 0, none⟩) k c' ws from HOW2.out).len; simp only [ints, List.length_map]; omega)⟩
                      have hfr := World.ownsRow.frozenAt hown q
                      have hst := World.ownsRow.stored hown q (.int .i64 (S % p))
                      rw [ints_set] at hst
                      have HST := Lib.hid hst.1
                      have hmb : 0 ≤ S % p ∧ S % p < p := ⟨Int.emod_nonneg _ (by omega), Int.emod_lt_of_pos _ (by omega)⟩
                      have HKS := Lib.hid (HKW.out.trans ((show Keep (· = gw) wb wr by obtain ⟨m, hm⟩ := hw3.out; rw [hm]; exact drewN_keep wb m).trans (setCell_keep wr ⟨gw, q, none⟩ (.int .i64 (S % p)))))
                      clear hst hown hcell
                      go_wp2_with (fail)
                      go_roundw
                      case rel => exact ⟨q + 1, _, by omega, by go_num, HST.out, HKS.out⟩
                      case measure => simp [intOf]; omega
                · obtain rfl : q = k := by omega
                  have HOW2 := Lib.hid hown
                  have HDq := Lib.hid hDq
                  have HKt := Lib.hid hKt
                  clear hown hkeep hDq hRq hKt
                  go_wp2_with (fail)
                  go_ret3
                  exact ⟨_, _, _, _, _, _, ws, by rw [hnm]; rfl, ⟨hp0, hp1⟩, HDq.out.mono hs1, by rw [hnm]; exact owns_mono HOW2.out (by omega), hB2.trans (HKt.out.drwBelow (by omega) hrb (by omega))⟩
      · have hj2 : ((j1 : Int) == 0) = false := by simpa using hj
        go_wp2_with (fail)
        go_ret3
        exact ⟨_, _, _, _, _, _, xs, by rw [hnm]; rfl, ⟨hp0, hp1⟩, HD3.out.mono hs1, by rw [hnm]; exact owns_mono HO3.out (by omega), hB2.trans (HK4.out.drwBelow (by omega) hrb (by omega))⟩
end Go.Proofs.Ytpelokdgjdljfab
