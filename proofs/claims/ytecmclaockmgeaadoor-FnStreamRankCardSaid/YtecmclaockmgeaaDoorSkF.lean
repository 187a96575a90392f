/-
  The contract of FracOf of the program.
  The contract of FracOf of the model.
  The contract of RecOf of the program.
  The contract of RecOf of the model.
  The contracts of RecLeast of the program and of the model.
  Plain mathematics: sums, rows that a matrix takes to 0, what the elimination reaches.
  Plain mathematics: the elimination keeps what is taken to 0, and reaches a form of unit columns.
  Plain mathematics of the kernel; the contracts of the program's MatKernel and of what it calls.
  Plain mathematics: the form is told by what is taken to 0; the rank is the least inner length of a product; rows as columns have the same rank.
  Plain mathematics: the rank is the least inner length of a product.
  Plain mathematics: the rank of the table of a stream is its least order.
  Plain mathematics: fractions as series; the least recurrence of a stream.
  Plain mathematics: RecLeast has the same stream, and no shorter recurrence has.
-/
import Derived.Deep.RegionHeld3
import Derived.Test.YtecmclaockmgeaaDoorSkE
import Derived.Test.YtecmclaockmgeaaDoorRecV
import Derived.Test.YtecmclaockmgeaaDoorFrZp
import Derived.Deep.AppendSrc
import Derived.Test.YtecmclaockmgeaaDoorRes
import Derived.Test.YtecmclaockmgeaaDoorElim
import Derived.Test.YtecmclaockmgeaaDoorSig
import Derived.Test.YtecmclaockmgeaaDoorSkA
import Derived.Test.YtecmclaockmgeaaDoorStm
namespace Go.Proofs.YtecmclaockmgeaaDoor
open Go.RowKit
/-- the lower polynomial's numbers of a recurrence -/
def lowT (p : Int) (T : List Int) : List Int := 1 :: T.map fun x => (p - x) % p
theorem lowT_take {p : Int} {T : List Int} {k : Nat} {x : Int} (h : T[k]? = some x) : (lowT p T).take (k + 1 + 1) = (lowT p T).take (k + 1) ++ [-x % p] := by
  unfold lowT
  rw [List.take_succ_cons, List.take_succ_cons, List.take_add_one, List.getElem?_map, h]
  simp
def fracOfR (p : Int) (T F : List Int) : Int × List Int × List Int := if recB p T F = true then (leastR p (trimL (serT p (lowT p T) F)) (trimL (lowT p T))).getD (0, [], []) else (0, [], [])
theorem IT.trim {w : World} {A : Option Addr} {n c b : Nat} {p : Int} {xs : List Int} (h : IT w A n c b p xs) : IT w A (trimL xs).length c b p (trimL xs) := by
  have hl : (trimL xs).length ≤ n := by rw [← h.len]; exact trim_le xs
  refine ⟨rfl, ?_, ?_, ?_, ?_⟩
  · rcases h.adr with ⟨h1, h2, h3⟩ | h1
    · exact .inl ⟨h1, by omega, h3⟩
    · exact .inr h1
  · exact Nat.le_trans hl h.capn
  · have := h.big; first | exact this | omega
  · intro i hi
    obtain ⟨x, h1, h2, h3⟩ := h.cell i (by omega)
    refine ⟨x, ?_, h2, h3⟩
    rw [← take_trim xs, List.getElem?_take_of_lt hi]
    exact h1
theorem fracOf_law {p : Int} {T F : List Int} (h : recB p T F = true) :
    serB p (lowT p T) = true ∧ serB p F = true ∧ polB p (trimL (serT p (lowT p T) F)) = true ∧ polB p (trimL (lowT p T)) = true ∧ (serT p (lowT p T) F).length ≤ 6 ∧
    leastR p (trimL (serT p (lowT p T) F)) (trimL (lowT p T)) = some (fracOfR p T F) := by
  obtain ⟨hp, h6, hl, hT, hF⟩ := recB_true h
  have hlen : (lowT p T).length = T.length + 1 := by simp [lowT]
  have hlow : serB p (lowT p T) = true := serB_mk hp (by omega) (fun x hx => by
    rcases List.mem_cons.1 hx with rfl | hx
    · exact (serB_true (serB_one hp).1).2.2 1 (by simp)
    · obtain ⟨y, _, rfl⟩ := List.mem_map.1 hx
      exact numB_emod hp _)
  have hf : serB p F = true := serB_mk hp (by omega) hF
  have hs : serT p (lowT p T) F = serL p (lowT p T) F := by unfold serT; rw [if_pos ⟨hlow, hf⟩]
  have hsl : (serL p (lowT p T) F).length ≤ 6 := by rw [serL_len]; omega
  have hU : polB p (trimL (serT p (lowT p T) F)) = true := by
    rw [hs]
    refine polB_of (serB_mk hp (by have := trim_le (serL p (lowT p T) F); omega) (fun x hx => ?_)) (trim_last _)
    have hx := trim_mem hx
    unfold serL convR at hx
    obtain ⟨i, _, rfl⟩ := List.mem_map.1 hx
    exact numB_emod hp _
  have hL : polB p (trimL (lowT p T)) = true :=
    polB_of (serB_mk hp (by have := trim_le (lowT p T); omega) (fun x hx => (serB_true hlow).2.2 x (trim_mem hx))) (trim_last _)
  have hz : co (trimL (lowT p T)) 0 ≠ 0 := by rw [co_trim]; simp [co, lowT]
  have h0 : (trimL (lowT p T)).length ≠ 0 := fun h0 => hz (co_far (by omega))
  obtain ⟨_, _, _, _, l5, l6⟩ := least_law hU hL h0 hz
  have k1 := trim_le (serT p (lowT p T) F)
  have k2 := trim_le (lowT p T)
  rw [hs] at k1
  refine ⟨hlow, hf, hU, hL, by rw [hs]; exact hsl, ?_⟩
  unfold fracOfR
  rw [if_pos h, leastR_yes h0 hz (by rw [hs] at l5 ⊢; omega) (by omega)]
  rfl
set_option maxRecDepth 100000 in
set_option maxHeartbeats 16000000 in
theorem implFracOf (v : Value) (p : Int) (T F : List Int) (w : World) (h : RV w v p T F) (ge : Addr) (hge : GE w ge) :
    Calls Tryd.prog 23 #[v] w (MadeR (fracOfR p T F).1 (fracOfR p T F).2.1 (fracOfR p T F).2.2 w) := by
  obtain ⟨A, n, c, b, o, A', n', c', b', o', rfl, g1, g2⟩ := h
  have hbx := (Bx.new w (.int .i64 p) (.slice A n c) (.slice A' n' c') 25).below (below_new _ (.cells #[.int .i64 0, .slice none 0 0, .slice none 0 0] 46))
  have hbw := BxW.new (w.alloc (.cells #[.int .i64 p, .slice A n c, .slice A' n' c'] 25)) (.int .i64 0) (.slice none 0 0) (.slice none 0 0) 46
  rw [World.size_alloc] at hbw
  have hB0 := ((Below.refl w.heap.size w).alloc (Nat.le_refl _) (.cells #[.int .i64 p, .slice A n c, .slice A' n' c'] 25)).alloc (by simp) (.cells #[.int .i64 0, .slice none 0 0, .slice none 0 0] 46)
  have HV0 := Lib.hid (show RV _ (.agg #[.int .i64 p, .slice A n c, .slice A' n' c']) p T F from ⟨_, _, _, _, _, _, _, _, _, _, rfl, g1.below hB0, g2.below hB0⟩)
  have H := Lib.hid (g1.below hB0)
  have H' := Lib.hid (g2.below hB0)
  have HBX := Lib.hid hbx
  have HBW := Lib.hid hbw
  have HG0 := Lib.hid (hge.below hB0)
  have HB0 := Lib.hid hB0
  clear hge g1 g2 hbx hbw hB0
  rcases hv : recB p T F
  · have HV := Lib.hid hv
    have HE := Lib.hid (show fracOfR p T F = (0, [], []) by unfold fracOfR; rw [if_neg (by simp [hv])])
    clear hv
    go_enter Tryd.func23, Tryd.ntmps23
    go_wp2_with (go_at_call 7; refine (implRecValid _ p T F _ HV0.out).mono ?_; rintro e w1 ⟨rfl, hB⟩; rw [HV.out]; have HB1 := Lib.hid (below_more HB0.out hB); have hbw := HBW.out.below hB; have x0 := hbw.c.1; have x1 := hbw.c.2.1; have x2 := hbw.c.2.2; have fz := hbw.fz; clear hB hbw)
    refine bodyPost_ret (v := .agg #[.int .i64 0, .slice none 0 0, .slice none 0 0]) (by simp [results, Tryd.f23, go_sem, x0, x1, x2]) rfl ?_
    rw [HE.out]
    exact made_zero HB1.out (by omega)
  obtain ⟨hp, h6, hl, hT, hF⟩ := recB_true hv
  have HV := Lib.hid hv
  go_enter Tryd.func23, Tryd.ntmps23
  go_wp2_with (go_at_call 7; refine (implRecValid _ p T F _ HV0.out).mono ?_; rintro e w1 ⟨rfl, hB⟩; rw [HV.out]; have HBX1 := Lib.hid (HBX.out.below hB); have HBX2 := Lib.hid (HBX1.out.below (below_new w1 (.cells #[.int .i64 1] 3))); have y0 := HBX2.out.1; have y1 := HBX2.out.2.1; have y2 := HBX2.out.2.2; have HBW1 := Lib.hid (HBW.out.below hB); have HB1 := Lib.hid (below_more HB0.out hB); have H1 := Lib.hid (H.out.below hB); have H1' := Lib.hid (H'.out.below hB); have HG1 := Lib.hid (HG0.out.below hB); have hlo := HBW1.out.c.lt; clear hB)
  obtain ⟨o1, o2, o3, o4, o5, o6⟩ := fracOf_law hv
  obtain ⟨UP, hUP⟩ : ∃ U, serT p (lowT p T) F = U := ⟨_, rfl⟩
  rw [hUP] at o3 o5 o6
  obtain ⟨⟨RP, RT, RF⟩, hR⟩ : ∃ R, fracOfR p T F = R := ⟨_, rfl⟩
  rw [hR] at o6
  have HRR := Lib.hid hR
  have HS := Lib.hid hUP
  have HPU := Lib.hid o3
  have HPL := Lib.hid o4
  have HUL := Lib.hid (show UP.length ≤ 1048576 by omega)
  have HLW := Lib.hid (show (lowT p T).length = T.length + 1 by simp [lowT])
  have HR3 := Lib.hid o6
  clear o1 o2 o3 o4 o5 o6 hUP hR
  have hpb := prime_ge hp
  have HL := Lib.hid H.out.len
  have hlen := H.out.len
  have HT := Lib.hid hT
  have HF := Lib.hid hF
  have HPR := Lib.hid hp
  have hn6 : n ≤ 6 := by omega
  clear hv hT hF hl h6 hp hlen y0 y1 y2
  go_loopw [3, 17] (fun lw i wr => ∃ (k : Nat) (Al : Option Addr) (cl : Nat), k ≤ n ∧ i = .int .i64 k ∧ lw = .slice Al (k + 1) cl ∧ OI wr w1.heap.size Al (k + 1) cl ((lowT p T).take (k + 1)) ∧ Below w1.heap.size w1 wr) (fun _ i _ => n - (intOf i).toNat)
  case atStart =>
    refine ⟨0, _, 1, Nat.zero_le _, rfl, rfl, ?_, (Below.refl _ _).alloc (Nat.le_refl _) _⟩
    have h := World.ownsRow_lit (e := 3) (base := w1.heap.size) (size := 1) w1 #[.int .i64 1] 1 (Nat.le_refl _) (by unfold maxLen; omega) (by simp)
    unfold OI ints lowT
    exact h
  case round =>
    obtain ⟨k, Al, cl, hk, rfl, rfl, hO, hB⟩ := hrel
    have HO := Lib.hid hO
    have HBr := Lib.hid hB
    have HBXr := Lib.hid (HBX1.out.below hB)
    have Hr := Lib.hid (H1.out.below hB)
    clear hO hB
    by_cases hlt : k < n
    · obtain rfl := Hr.out.adr (by omega)
      obtain ⟨x, hx, hc⟩ := Hr.out.cell k hlt
      have hxb := numB_bd (HT.out x (List.mem_of_getElem? hx))
      obtain ⟨y0, y1, y2⟩ := HBXr.out
      have HX := Lib.hid hxb
      have HXg := Lib.hid hx
      clear hx hxb
      go_wp2_with (first | (go_at_call 38; refine (negative_any2 p x _ HX.out.2.2.1 HX.out.2.2.2 HX.out.1 HX.out.2.1).mono ?_; rintro e w' ⟨rfl, rfl⟩) | (at_builtin; refine wpList_app_int rfl (.tmp 21) (.tmp 26) rfl w1.heap.size Al (k + 1) cl ((lowT p T).take (k + 1)) rfl (World.ownsRow.alloc HO.out _) (-x % p) wr.heap.size 1 rfl (by simp [go_sem]) (by omega) (by have := HBr.out.size; simp; omega) ?_; intro A4 c4 w4 hO4 hK4; have HO4 := Lib.hid hO4; have HK4 := Lib.hid hK4; clear hO4 hK4))
      go_roundw
      case rel =>
        have hs := HBr.out.size
        refine ⟨k + 1, A4, c4, by omega, by go_num, rfl, ?_, HBr.out.trans (((keep_of_below ((Below.refl _ wr).alloc (Nat.le_refl _) (.cells #[.int .i64 (-x % p)] 3)) |>.mono (T := fun k' => (Value.slice Al (k + 1) cl).ownBlock = some k') (fun _ _ h => h.elim)).trans HK4.out).below hs (fun g hg => (HO.out.lt g hg).1))⟩
        rw [lowT_take HXg.out]
        exact HO4.out
      case measure => simp [intOf]; omega
    · obtain rfl : k = n := by omega
      obtain ⟨y0, y1, y2⟩ := HBXr.out
      go_wp2_with (fail)
      have hlw : (lowT p T).take (k + 1) = lowT p T := List.take_of_length_le (by rw [HLW.out, HL.out]; exact Nat.le_refl _)
      rw [hlw] at HO
      obtain ⟨bl, hIl⟩ := OI.ia HO.out
      have HIl := Lib.hid hIl
      have Hr' := Lib.hid (H1'.out.below HBr.out)
      clear hIl hlw
      refine (implSeriesTimes p Al (k + 1) cl bl 0 (lowT p T) A' n' c' b' o' F _ HIl.out Hr'.out).mono ?_
      rw [HS.out]
      rintro e w2 ⟨Au, cu, rfl, hO, hB⟩
      obtain ⟨bu, hI⟩ := OI.ia hO
      have HIu2 := Lib.hid hI
      have HIl2 := Lib.hid (HIl.out.below hB)
      have HBX2 := Lib.hid (HBXr.out.below hB)
      have HBW2 := Lib.hid ((HBW1.out.below HBr.out).below hB)
      have HG2 := Lib.hid ((HG1.out.below HBr.out).below hB)
      have HB2 := Lib.hid (below_more (below_more HB1.out HBr.out) hB)
      clear hO hI hB y0 y1 y2
      obtain ⟨y0, y1, y2⟩ := HBX2.out
      go_upto_region 10 with (fail)
      go_cut [7] (fun v wx => ∃ (gB : Nat) (A3 : Option Addr) (c3 : Nat) (A4 : Option Addr) (c4 : Nat), v = .pointer (some ⟨gB, 0, none⟩) ∧ Bx wx gB (.int .i64 RP) (.slice A3 RT.length c3) (.slice A4 RF.length c4) ∧ OI wx w2.heap.size A3 RT.length c3 RT ∧ OI wx w2.heap.size A4 RF.length c4 RF ∧ Apart (.slice A3 RT.length c3) (.slice A4 RF.length c4) ∧ BxW wx (w.heap.size + 1) (.int .i64 0) (.slice none 0 0) (.slice none 0 0) ∧ Below w.heap.size w wx)
      case first =>
        have HBd2 := Lib.hid HB2.out.drew
        have HG2d := Lib.hid HG2.out.drew
        have HW2d := Lib.hid HBW2.out.drew
        have HIu2d := Lib.hid (HIu2.out.below (below_new_drew w2))
        have HIl2d := Lib.hid (HIl2.out.below (below_new_drew w2))
        have ZS := HBX2.out
        have Zd := HBX2.out.drew
        unfold Bx at ZS Zd
        have hlo2 := HBW2.out.c.lt
        have hfar : ∀ (W : World) (g o o' : Nat) (v : Value), w.heap.size < g → (W.setCell ⟨g, o, none⟩ v).cell? ⟨w.heap.size, o', none⟩ = W.cell? ⟨w.heap.size, o', none⟩ := fun W g o o' v hg => World.cell?_setCell_far _ _ _ _ (by show g ≠ w.heap.size; omega)
        go_region_held3 (fun w' => w'.cell? ⟨w.heap.size, 0, none⟩ = some (.int .i64 p) ∧ w'.cell? ⟨w.heap.size, 1, none⟩ = some (.slice A k c) ∧ w'.cell? ⟨w.heap.size, 2, none⟩ = some (.slice A' n' c')) (first | assumption | exact Z7 | exact Z6 | exact Z5 | exact Z4 | exact Z3 | exact Zd | exact ZS | (refine ⟨?_, ?_, ?_⟩ <;> (simp (disch := omega) only [hfar]; first | exact Z7.1 | exact Z7.2.1 | exact Z7.2.2)) | go_keep)
          (first
            | (go_at_call 42; (with_reducible refine (termsOf_any p Au _ cu bu 0 UP _ (by first | exact HIu2d.out | exact HIu2d.out.below (below_new _ _)) HUL.out).mono ?_); rintro e w3 ⟨A5, c5, rfl, hO, hB⟩; have hB' : Below w2.drew.heap.size w2.drew w3 := (by first | exact hB | exact below_more (below_new _ (.cells #[.int .i64 0, .slice none 0 0, .slice none 0 0] 46)) hB); (first | have HLB := Lib.hid (show BxW w3 w2.heap.size (.int .i64 0) (.slice none 0 0) (.slice none 0 0) from (BxW.new w2.drew (.int .i64 0) (.slice none 0 0) (.slice none 0 0) 46).below hB) | skip); have hz3 : w2.heap.size ≤ w3.heap.size := hB'.size; obtain ⟨b5, hI⟩ := OT.it hO; have HIt3 := Lib.hid hI; clear hO hI; have HBd3 := Lib.hid (below_more HBd2.out hB'); have HG3d := Lib.hid (HG2d.out.below hB'); have HW3d := Lib.hid (HW2d.out.below hB'); have HBX3 := Lib.hid (HBX2.out.drew.below hB'); have Z3 := HBX3.out; unfold Bx at Z3; have HIl3 := Lib.hid (HIl2d.out.below hB'); clear hB hB')
            | (go_at_call 43; (with_reducible refine (trimmed_any p A5 _ c5 b5 UP _ (by first | exact HIt3.out | exact HIt3.out.below (below_new _ _))).mono ?_); rintro e w4 ⟨rfl, hB⟩; have hB' : Below w3.heap.size w3 w4 := (by first | exact hB | exact below_more (below_new _ (.cells #[.int .i64 0, .slice none 0 0, .slice none 0 0] 46)) hB); (first | have HLB := Lib.hid (HLB.out.below hB') | have HLB := Lib.hid ((BxW.new w3 (.int .i64 0) (.slice none 0 0) (.slice none 0 0) 46).below hB) | skip); (first | have hl4 := HLB.out.c.lt | skip); have hz4 : w3.heap.size ≤ w4.heap.size := hB'.size; have HIt4 := Lib.hid (HIt3.out.trim.below hB'); have HBd4 := Lib.hid (below_more HBd3.out hB'); have HG4d := Lib.hid (HG3d.out.below hB'); have HW4d := Lib.hid (HW3d.out.below hB'); have HBX4 := Lib.hid (HBX3.out.below hB'); have Z4 := HBX4.out; unfold Bx at Z4; have HIl4 := Lib.hid (HIl3.out.below hB'); clear hB hB')
            | (go_at_call 42; (with_reducible refine (termsOf_any p Al _ cl bl 0 (lowT p T) _ (by first | exact HIl4.out | exact HIl4.out.below (below_new _ _)) (by omega)).mono ?_); rintro e w5 ⟨A6, c6, rfl, hO, hB⟩; have hB' : Below w4.heap.size w4 w5 := (by first | exact hB | exact below_more (below_new _ (.cells #[.int .i64 0, .slice none 0 0, .slice none 0 0] 46)) hB); (first | have HLB := Lib.hid (HLB.out.below hB') | have HLB := Lib.hid ((BxW.new w4 (.int .i64 0) (.slice none 0 0) (.slice none 0 0) 46).below hB) | skip); (first | have hl5 := HLB.out.c.lt | skip); have hz5 : w4.heap.size ≤ w5.heap.size := hB'.size; obtain ⟨b6, hI⟩ := OT.it hO; have HIs5 := Lib.hid hI; clear hO hI; have HBd5 := Lib.hid (below_more HBd4.out hB'); have HG5d := Lib.hid (HG4d.out.below hB'); have HW5d := Lib.hid (HW4d.out.below hB'); have HBX5 := Lib.hid (HBX4.out.below hB'); have Z5 := HBX5.out; unfold Bx at Z5; have HIt5 := Lib.hid (HIt4.out.below hB'); clear hB hB')
            | (go_at_call 43; (with_reducible refine (trimmed_any p A6 _ c6 b6 (lowT p T) _ (by first | exact HIs5.out | exact HIs5.out.below (below_new _ _))).mono ?_); rintro e w6 ⟨rfl, hB⟩; have hB' : Below w5.heap.size w5 w6 := (by first | exact hB | exact below_more (below_new _ (.cells #[.int .i64 0, .slice none 0 0, .slice none 0 0] 46)) hB); (first | have HLB := Lib.hid (HLB.out.below hB') | have HLB := Lib.hid ((BxW.new w5 (.int .i64 0) (.slice none 0 0) (.slice none 0 0) 46).below hB) | skip); (first | have hl6 := HLB.out.c.lt | skip); have hz6 : w5.heap.size ≤ w6.heap.size := hB'.size; have HIs6 := Lib.hid (HIs5.out.trim.below hB'); have HBd6 := Lib.hid (below_more HBd5.out hB'); have HG6d := Lib.hid (HG5d.out.below hB'); have HW6d := Lib.hid (HW5d.out.below hB'); have HBX6 := Lib.hid (HBX5.out.below hB'); have Z6 := HBX6.out; unfold Bx at Z6; have HIt6 := Lib.hid (HIt5.out.below hB'); clear hB hB')
            | (go_at_call 41; refine (leastFrac_some p A5 _ c5 b5 (trimL UP) A6 _ c6 b6 (trimL (lowT p T)) _ (by first | exact HIt6.out | exact HIt6.out.below (below_new _ _)) (by first | exact HIs6.out | exact HIs6.out.below (below_new _ _)) HPU.out HPL.out ge (by first | exact HG6d.out | exact HG6d.out.below (below_new _ _)) RP RT RF HR3.out).mono ?_; rintro e w7 ⟨A3, c3, A4, c4, rfl, hO1, hO2, hap, hB⟩; have hB' : Below w6.heap.size w6 w7 := (by first | exact hB | exact below_more (below_new _ (.cells #[.int .i64 0, .slice none 0 0, .slice none 0 0] 46)) hB); (first | have HLB := Lib.hid (HLB.out.below hB') | have HLB := Lib.hid ((BxW.new w6 (.int .i64 0) (.slice none 0 0) (.slice none 0 0) 46).below hB) | skip); (first | have hl7 := HLB.out.c.lt | skip); have hz7 : w6.heap.size ≤ w7.heap.size := hB'.size; have HO1 := Lib.hid hO1; have HO2 := Lib.hid hO2; have HAP := Lib.hid hap; clear hO1 hO2 hap; have HBd7 := Lib.hid (below_more HBd6.out hB'); have HG7d := Lib.hid (HG6d.out.below hB'); have HW7d := Lib.hid (HW6d.out.below hB'); have HBX7 := Lib.hid (HBX6.out.below hB'); have Z7 := HBX7.out; unfold Bx at Z7; clear hB hB'; (first | (obtain ⟨z0, z1, z2⟩ := HLB.out.c; have zf := HLB.out.fz; have hzl := HLB.out.c.lt) | skip)))
        all_goals
          go_wp2_with (fail)
          go_meet
          first
            | exact ⟨_, A3, c3, A4, c4, rfl, HLB.out.put _ _ _, owns_mono (OIk HO1.out (set3_keep _ _ _ _ _) (fun k' hk e => by have := (HO1.out.lt k' hk).1; first | omega | (simp at this; omega))) (by first | omega | (simp; omega)), owns_mono (OIk HO2.out (set3_keep _ _ _ _ _) (fun k' hk e => by have := (HO2.out.lt k' hk).1; first | omega | (simp at this; omega))) (by first | omega | (simp; omega)), HAP.out, HW7d.out.keep (set3_keep _ _ _ _ _) (fun e => by omega), HBd7.out.trans (set3_far _ _ _ _ _ (by omega) HBd7.out.size)⟩
            | exact ⟨w7.heap.size, A3, c3, A4, c4, rfl, Bx.new _ _ _ _ _, owns_mono (OIb HO1.out (below_new _ _)) (by omega), owns_mono (OIb HO2.out (below_new _ _)) (by omega), HAP.out, HW7d.out.below (below_new _ _), below_more HBd7.out (below_new _ _)⟩
            | trace_state
      case rest =>
      obtain ⟨gB, A3, c3, A4, c4, rfl, hbx, hO1, hO2, hap, hbw, hB⟩ := hcut
      obtain ⟨wo, rfl⟩ : ∃ wo : World, wo = wc := ⟨_, rfl⟩
      have hs2 := HB2.out.size
      have hlo2 := HBW2.out.c.lt
      have HR4 := Lib.hid (show RO wo w2.heap.size (.agg #[.int .i64 RP, .slice A3 RT.length c3, .slice A4 RF.length c4]) RP RT RF from ⟨A3, c3, A4, c4, rfl, hO1, hO2, hap⟩)
      have HB4 := Lib.hid hB
      obtain ⟨z0, z1, z2⟩ := hbx
      obtain ⟨x0, x1, x2⟩ := hbw.c
      have fz := hbw.fz
      clear hO1 hO2 hap hB hbw
      go_wp2_with (fail)
      refine bodyPost_ret (v := .agg #[.int .i64 RP, .slice A3 RT.length c3, .slice A4 RF.length c4]) (by simp [results, Tryd.f23, go_sem, x0, x1, x2]) rfl ?_
      rw [HRR.out]
      exact made_put (g := w.heap.size + 1) HR4.out HB4.out hs2 (by omega) hlo2
end Go.Proofs.YtecmclaockmgeaaDoor
namespace Go.Proofs.YtecmclaockmgeaaDoor
open Go.RowKit
theorem run_app_any (w : World) (B : Nat) (g n c : Nat) (xs : List Int) (hown : OI w B (some ⟨g, 0, none⟩) n c xs) (A2 : Option Addr) (m c2 b2 o2 : Nat) (ys : List Int) (h2 : IA w A2 m b2 o2 ys) (hA : A2 = none → m = 0) (hn : n + m ≤ 1000000000) (hB : B ≤ w.heap.size) :
    ∃ (A' : Option Addr) (c' : Nat) (w' : World), (Builtin.append_ #[23, 23] 23 #[.slice (some ⟨g, 0, none⟩) n c, .slice A2 m c2]).run Tryd.prog w = .ok (.slice A' (n + m) c') w' ∧ OI w' B A' (n + m) c' (xs ++ ys) ∧ w.grownBy w' (some g) := by
  obtain ⟨i0, hi, hz0, hz1, hz2⟩ := info_parts infoInt
  by_cases hm : m = 0
  · subst hm
    obtain rfl : ys = [] := List.eq_nil_of_length_eq_zero h2.len
    have hcap : n ≤ c := OI.capLe hown
    have hsrc : Src Tryd.prog i0.size 23 (.slice A2 0 c2) 0 [] w := by
      cases A2 with
      | none => exact Src.ofNil w Tryd.underlying23 c2
      | some a => exact Src.ofSlice w Tryd.underlying23 a 0 c2 [] (by simp) (fun j u h => by simp at h) (fun u h => by cases h)
    have hr := run_append_room_src (P := Tryd.prog) w 23 23 23 3 i0 Tryd.underlying23 hi g 0 n c (.slice A2 0 c2) 0 [] hsrc (by omega) (fun j h => by simp at h) (fun j h => by simp at h)
    refine ⟨_, _, _, hr, ?_, World.grownBy.refl _ _⟩
    rw [List.append_nil]; exact hown
  · obtain rfl := h2.adr (by omega)
    obtain ⟨v', w', hr, h3, h4, _⟩ := run_append_own (P := Tryd.prog) w B 23 23 3 i0 (.int .i64 0) 1 8 Tryd.underlying23 hi hz0 hz1 hz2 rfl (by decide) _ n (ints xs) hown ⟨b2, o2, none⟩ m c2 (ints ys) (by rw [ints_len, h2.len]; omega) h2.src (ints_one ys) (by unfold maxLen; omega) (by omega) hB
    obtain ⟨A', c', rfl⟩ := owns_shape h3
    refine ⟨A', c', w', hr, ?_, h4⟩
    unfold OI
    simpa [ints] using h3
theorem step_app_any {ops : Array Oper} {o : Oper} {a : Act} {w : World} {K : Act → World → Prop} {Q : Exit → Act → World → Prop} {E : Prop} (hg : o.guard = none) (s x : Operand)
    (ho : o.op = .call { callee := .builtin .append, args := #[s, x], argTypes := #[23, 23] }) (hty : o.type = 23)
    (B g n c : Nat) (xs : List Int) (hs : a.eval s = .slice (some ⟨g, 0, none⟩) n c) (hown : OI w B (some ⟨g, 0, none⟩) n c xs) (A2 : Option Addr) (m c2 b2 o2 : Nat) (ys : List Int) (hx : a.eval x = .slice A2 m c2) (h2 : IA w A2 m b2 o2 ys) (hA : A2 = none → m = 0)
    (hn : n + m ≤ 1000000000) (hB : B ≤ w.heap.size)
    (h : ∀ (A' : Option Addr) (c' : Nat) (w' : World), OI w' B A' (n + m) c' (xs ++ ys) → w.grownBy w' (some g) → K (a.put o.dst (.slice A' (n + m) c')) w') :
    if Region.wanted o (yielded ops a.tmps) = true then Oper.wp Tryd.prog o a w K Q else E := by
  have hw : Region.wanted o (yielded ops a.tmps) = true := by simp [Region.wanted, hg]
  rw [if_pos hw]
  obtain ⟨A', c', w', hr, h3, h4⟩ := run_app_any w B g n c xs hown A2 m c2 b2 o2 ys h2 hA hn hB
  unfold Oper.wp execOp
  simp only [ho, hty, resolve, invoke, builtin, Sem.run_bind, Sem.run_pure, Result.andThen_ok, List.map_toArray, List.map_cons, List.map_nil, hs, hx, hr]
  exact h A' c' w' h3 h4
theorem oi_some {w : World} {B n c : Nat} {A : Option Addr} {xs : List Int} (h : OI w B A n c xs) (hn : 0 < n) : ∃ g, A = some ⟨g, 0, none⟩ := by
  rcases h.adr with ⟨_, h0, _⟩ | ⟨g, h1, _⟩
  · omega
  · exact ⟨g, h1⟩
theorem below_undrewI {B : Nat} {w w' : World} (h : Below B w.drew w') : Below B w w' := ⟨h.os, h.tape, h.output, h.size, h.block⟩
theorem IA.freshI {w : World} (x : Int) : IA (w.alloc (.cells #[.int .i64 x] 3)) (some ⟨w.heap.size, 0, none⟩) 1 w.heap.size 0 [x] := by
  refine ⟨rfl, fun _ => rfl, by omega, fun i hi => ?_⟩
  obtain rfl : i = 0 := by omega
  exact ⟨x, rfl, by simp⟩
theorem leastR_some {p : Int} {up low : List Int} {R : Int × List Int × List Int} (h : leastR p up low = some R) : R = (p, (leastL p up low).1, (leastL p up low).2) := by
  unfold leastR leastO at h
  split at h
  · simpa using h.symm
  · cases h
theorem fracOfR_len (p : Int) (T F : List Int) : (fracOfR p T F).2.1.length ≤ 1048576 ∧ (fracOfR p T F).2.2.length ≤ 1048576 := by
  unfold fracOfR
  split
  · exact leastR_len _ _ _
  · simp
end Go.Proofs.YtecmclaockmgeaaDoor
namespace Go.Proofs.YtecmclaockmgeaaDoor
open Go.RowKit
def recOfT (p : Int) (Y : List Int) (d : Nat) : List Int := (List.range d).map fun k => -(co Y (k + 1)) % p
theorem recOfT_len (p : Int) (Y : List Int) (d : Nat) : (recOfT p Y d).length = d := by simp [recOfT]
theorem recOfT_get (p : Int) (Y : List Int) {d k : Nat} (h : k < d) : (recOfT p Y d)[k]? = some (-(co Y (k + 1)) % p) := by unfold recOfT; rw [List.getElem?_map, List.getElem?_range h]; rfl
theorem recOfT_stop {p : Int} {Y : List Int} {d m : Nat} (hm : Y.length = m + 1) (hd : m ≤ d) : (recOfT p Y d).take m ++ List.replicate (d - m) 0 = recOfT p Y d := by
  apply List.ext_getElem?
  intro i
  by_cases hi : i < m
  · rw [List.getElem?_append_left (by rw [List.length_take, recOfT_len]; omega), List.getElem?_take_of_lt hi]
  · rw [List.getElem?_append_right (by rw [List.length_take, recOfT_len]; omega), List.length_take, recOfT_len, Nat.min_eq_left hd]
    by_cases h2 : i < d
    · rw [recOfT_get p Y h2, co_far (by omega), List.getElem?_replicate]
      rw [if_pos (by omega)]
      simp
    · rw [List.getElem?_eq_none (by rw [List.length_replicate]; omega), List.getElem?_eq_none (by rw [recOfT_len]; omega)]
def recOfD (X Y : List Int) : Nat := max X.length (Y.length - 1)
def recOfR (p : Int) (U L : List Int) : Option (Int × List Int × List Int) :=
  if fracB p U L = true ∧ recOfD (leastL p U L).1 (leastL p U L).2 ≤ 6 then some (p, recOfT p (leastL p U L).2 (recOfD (leastL p U L).1 (leastL p U L).2), frT p (leastL p U L).1 (leastL p U L).2 (recOfD (leastL p U L).1 (leastL p U L).2)) else none
theorem recOfR_len (p : Int) (U L : List Int) : ((recOfR p U L).getD (0, [], [])).2.1.length ≤ 1048576 ∧ ((recOfR p U L).getD (0, [], [])).2.2.length ≤ 1048576 := by
  unfold recOfR
  split
  · rename_i h
    have := h.2
    simp only [Option.getD_some, recOfT_len, frT_len]
    omega
  · simp
theorem fracB_mk {p : Int} {X Y : List Int} (h1 : polB p X = true) (h2 : polB p Y = true) (h3 : X.length ≤ 12) (h4 : Y.length ≤ 12) (h5 : Y.length ≠ 0) (h6 : co Y 0 ≠ 0) : fracB p X Y = true := by
  unfold fracB
  simp only [Bool.and_eq_true, decide_eq_true_eq]
  exact ⟨⟨⟨⟨⟨h1, h2⟩, h3⟩, h4⟩, h5⟩, h6⟩
theorem leastL_frac {p : Int} {U L : List Int} (h : fracB p U L = true) : fracB p (leastL p U L).1 (leastL p U L).2 = true := by
  obtain ⟨hu, hl, h1, h2, h3, h4⟩ := fracB_true h
  obtain ⟨l1, l2, l3, l4, l5, l6⟩ := least_law hu hl h3 h4
  exact fracB_mk l1 l2 (by omega) (by omega) (by omega) (by rw [l3]; decide)
set_option maxRecDepth 100000 in
set_option maxHeartbeats 16000000 in
theorem implRecOf (v : Value) (p : Int) (U L : List Int) (w : World) (h : RV w v p U L) (ge : Addr) (hge : GE w ge) :
    Calls Tryd.prog 22 #[v] w (MadeRB (recOfR p U L) w) := by
  obtain ⟨A, n, c, b, o, A', n', c', b', o', rfl, g1, g2⟩ := h
  have hbx := (Bx.new w (.int .i64 p) (.slice A n c) (.slice A' n' c') 46).below (below_new _ (.cells #[.int .i64 0, .slice none 0 0, .slice none 0 0] 25))
  have hbw := BxW.new (w.alloc (.cells #[.int .i64 p, .slice A n c, .slice A' n' c'] 46)) (.int .i64 0) (.slice none 0 0) (.slice none 0 0) 25
  rw [World.size_alloc] at hbw
  have hB0 := ((Below.refl w.heap.size w).alloc (Nat.le_refl _) (.cells #[.int .i64 p, .slice A n c, .slice A' n' c'] 46)).alloc (by simp) (.cells #[.int .i64 0, .slice none 0 0, .slice none 0 0] 25)
  have HV := Lib.hid (show RV _ (.agg #[.int .i64 p, .slice A n c, .slice A' n' c']) p U L from ⟨_, _, _, _, _, _, _, _, _, _, rfl, g1.below hB0, g2.below hB0⟩)
  have HBX := Lib.hid hbx
  have HBW := Lib.hid hbw
  have HG0 := Lib.hid (hge.below hB0)
  have HB0 := Lib.hid hB0
  clear hge g1 g2 hbx hbw hB0
  rcases hv : fracB p U L
  · have HV1 := Lib.hid hv
    have HE := Lib.hid (show recOfR p U L = none by unfold recOfR; rw [if_neg (by simp [hv])])
    clear hv
    go_enter Tryd.func22, Tryd.ntmps22
    go_wp2_with (go_at_call 36; refine (implFracValid _ p U L _ HV.out ge HG0.out).mono ?_; rintro e w1 ⟨rfl, hB⟩; rw [HV1.out]; have HB1 := Lib.hid (below_more HB0.out hB); have hbw := HBW.out.below hB; have x0 := hbw.c.1; have x1 := hbw.c.2.1; have x2 := hbw.c.2.2; have fz := hbw.fz; clear hB hbw)
    refine bodyPost_ret (v := .tuple #[.agg #[.int .i64 0, .slice none 0 0, .slice none 0 0], .bool false]) (by simp [results, Tryd.f22, go_sem, x0, x1, x2]) rfl ?_
    rw [HE.out]
    exact madeb_no HB1.out (by omega)
  have HV1 := Lib.hid hv
  have hlf := leastL_frac hv
  have HLR := Lib.hid (show fracLeastR p U L = (p, (leastL p U L).1, (leastL p U L).2) by unfold fracLeastR; rw [if_pos hv])
  have HE := Lib.hid (show recOfR p U L = if recOfD (leastL p U L).1 (leastL p U L).2 ≤ 6 then some (p, recOfT p (leastL p U L).2 (recOfD (leastL p U L).1 (leastL p U L).2), frT p (leastL p U L).1 (leastL p U L).2 (recOfD (leastL p U L).1 (leastL p U L).2)) else none by
    unfold recOfR
    by_cases h : recOfD (leastL p U L).1 (leastL p U L).2 ≤ 6
    · rw [if_pos ⟨hv, h⟩, if_pos h]
    · rw [if_neg (fun e => h e.2), if_neg h])
  obtain ⟨X, hX⟩ : ∃ X, (leastL p U L).1 = X := ⟨_, rfl⟩
  obtain ⟨Y, hY⟩ : ∃ Y, (leastL p U L).2 = Y := ⟨_, rfl⟩
  rw [hX, hY] at HLR HE hlf
  obtain ⟨hxp, hyp, hx12, hy12, hy0, hyz⟩ := fracB_true hlf
  have HLF := Lib.hid hlf
  have HYV := Lib.hid (serB_true (polB_ser hyp)).2.2
  have hpr := (serB_true (polB_ser hxp)).1
  have hpb := prime_ge hpr
  obtain ⟨m, hm⟩ : ∃ m, Y.length = m + 1 := ⟨Y.length - 1, by omega⟩
  obtain ⟨k, hk⟩ : ∃ k, X.length = k := ⟨_, rfl⟩
  have HYL := Lib.hid hm
  have HXL := Lib.hid hk
  rw [hm] at hy12
  rw [hk] at hx12
  have HDD := Lib.hid (show recOfD X Y = max k m by unfold recOfD; rw [hk, hm]; rfl)
  clear hv hX hY hlf hxp hyp hy0 hyz hpr hm hk
  go_enter Tryd.func22, Tryd.ntmps22
  go_wp2_with (go_at_call 36; refine (implFracValid _ p U L _ HV.out ge HG0.out).mono ?_; rintro e w1 ⟨rfl, hB⟩; rw [HV1.out]; have HB1 := Lib.hid (below_more HB0.out hB); have HBW1 := Lib.hid (HBW.out.below hB); have HBX1 := Lib.hid (HBX.out.below hB); have HVa := Lib.hid (HV.out.below hB); have HG1 := Lib.hid (HG0.out.below hB); have y0 := HBX1.out.1; have y1 := HBX1.out.2.1; have y2 := HBX1.out.2.2; clear hB)
  refine (implFracLeast _ p U L _ HVa.out ge HG1.out).mono ?_
  rw [HLR.out]
  rintro e w2 ⟨v9, rfl, hO, hB⟩
  obtain ⟨A3, c3, A4, c4, rfl, hO1, hO2, hap⟩ := hO
  rw [HXL.out] at hO1 ⊢
  rw [HYL.out] at hO2 ⊢
  have HXL2 := HXL
  have hc4 := OI.capLe hO2
  obtain ⟨b4, hI4⟩ := hO2.ia
  obtain rfl := hI4.adr (by omega)
  have HI4 := Lib.hid hI4
  have HRL := Lib.hid (show RV w2 (.agg #[.int .i64 p, .slice A3 k c3, .slice (some ⟨b4, 0, none⟩) (m + 1) c4]) p X Y from by
    obtain ⟨b3, hI3⟩ := hO1.ia
    exact ⟨_, _, _, _, _, _, _, _, _, _, rfl, hI3, hI4⟩)
  have hs1 := HB1.out.size
  have hlo1 := HBW1.out.c.lt
  have hs2 := hB.size
  have HB2 := Lib.hid (below_more HB1.out hB)
  have HBX2 := Lib.hid (HBX1.out.below hB)
  have HBW2 := Lib.hid (HBW1.out.below hB)
  have HG2 := Lib.hid (HG1.out.below hB)
  clear hO1 hO2 hap hI4 hB y0 y1 y2
  have hbn := below_new w2 (.cells #[.int .i64 p, .slice A3 k c3, .slice (some ⟨b4, 0, none⟩) (m + 1) c4] 46)
  have HBL := Lib.hid (Bx.new w2 (.int .i64 p) (.slice A3 k c3) (.slice (some ⟨b4, 0, none⟩) (m + 1) c4) 46)
  have HBW3 := Lib.hid (HBW2.out.below hbn)
  obtain ⟨x0, x1, x2⟩ := HBW3.out.c
  have fz := HBW3.out.fz
  have hmw : IntKind.i64.wrap (((m + 1 : Nat) : Int) - 1) = (m : Int) := by rw [IntWalk.i64_in _ ⟨by omega, by omega⟩]; omega
  have hmw2 : IntKind.i64.wrap ((m : Int) + 1 - 1) = (m : Int) := by rw [IntWalk.i64_in _ ⟨by omega, by omega⟩]; omega
  have HN := Lib.hid hbn
  clear hbn
  by_cases hkm : (k : Int) < (m : Int)
  · skip
    have HD := Lib.hid (show recOfD X Y = m by rw [HDD.out]; omega)
    by_cases h6 : 6 < m
    · have HR := Lib.hid (show recOfR p U L = none by rw [HE.out, HD.out, if_neg (by omega)])
      have h6i : (6 : Int) < (m : Int) := by omega
      go_wp2_with (fail)
      refine bodyPost_ret (v := .tuple #[.agg #[.int .i64 0, .slice none 0 0, .slice none 0 0], .bool false]) (by simp [results, Tryd.f22, go_sem, x0, x1, x2]) rfl ?_
      rw [HR.out]
      exact madeb_no (below_more HB2.out HN.out) (by omega)
    have hd6 : m ≤ 6 := by omega
    have hmd : m ≤ m := by omega
    obtain ⟨TL, hTL⟩ : ∃ TL, recOfT p Y m = TL := ⟨_, rfl⟩
    obtain ⟨FT, hFT⟩ : ∃ FT, frT p X Y m = FT := ⟨_, rfl⟩
    have HR := Lib.hid (show recOfR p U L = some (p, TL, FT) by rw [HE.out, HD.out, if_pos hd6, hTL, hFT])
    have HTL := Lib.hid (show TL.length = m by rw [← hTL, recOfT_len])
    have HFL := Lib.hid (show FT.length = m by rw [← hFT, frT_len])
    have HFT := Lib.hid (show fracT p X Y (m : Int) = FT by unfold fracT; rw [if_pos ⟨HLF.out, by omega, by omega⟩, ← hFT]; rfl)
    have HTG := Lib.hid (show ∀ j, j < m → TL[j]? = some (-(co Y (j + 1)) % p) from fun j hj => by rw [← hTL]; exact recOfT_get p Y (by omega))
    have HTS := Lib.hid (show TL.take m ++ List.replicate (m - m) 0 = TL by rw [← hTL]; exact recOfT_stop HYL.out hmd)
    have hmk := run_make_row' (P := Tryd.prog) 23 3 (.int .i64 0) 8 Tryd.underlying23 infoInt rfl .i64 .i64 m (by omega) (by omega)
    have h6n : ¬ (6 : Int) < (m : Int) := by omega
    clear hTL hFT
    have hc1 : ¬ c4 = 1 := by omega
    go_wp2_with (fail)
    go_loopw [32] (fun i wr => ∃ j : Nat, j ≤ m ∧ i = .int .i64 (j : Int) ∧ OI wr (w2.heap.size + 1) (some ⟨w2.heap.size + 1, 0, none⟩) m m (TL.take j ++ List.replicate (m - j) 0) ∧ Below (w2.heap.size + 1) (w2.alloc (.cells #[.int .i64 p, .slice A3 k c3, .slice (some ⟨b4, 0, none⟩) (m + 1) c4] 46)) wr) (fun i _ => m - (intOf i).toNat)
    case atStart =>
      have h := made_ints (w2.alloc (.cells #[.int .i64 p, .slice A3 k c3, .slice (some ⟨b4, 0, none⟩) (m + 1) c4] 46)) m (by omega)
      have hb := below_new (w2.alloc (.cells #[.int .i64 p, .slice A3 k c3, .slice (some ⟨b4, 0, none⟩) (m + 1) c4] 46)) (.cells (madeCells #[.int .i64 0] m) 3)
      rw [World.size_alloc] at h hb
      exact ⟨0, by omega, rfl, by simpa using h, hb⟩
    case round =>
      obtain ⟨j, hj, rfl, hown, hbel⟩ := hrel
      have hz3 : (w2.alloc (.cells #[.int .i64 p, .slice A3 k c3, .slice (some ⟨b4, 0, none⟩) (m + 1) c4] 46)).heap.size = w2.heap.size + 1 := by simp
      have hbel' : Below (w2.alloc (.cells #[.int .i64 p, .slice A3 k c3, .slice (some ⟨b4, 0, none⟩) (m + 1) c4] 46)).heap.size (w2.alloc (.cells #[.int .i64 p, .slice A3 k c3, .slice (some ⟨b4, 0, none⟩) (m + 1) c4] 46)) wr := by rw [hz3]; exact hbel
      have HBXr := Lib.hid ((HBX2.out.below HN.out).below hbel')
      have HBLr := Lib.hid (HBL.out.below hbel')
      have HBWr := Lib.hid (HBW3.out.below hbel')
      have HBr := Lib.hid (below_more HN.out hbel')
      have hsr := hbel'.size
      rw [hz3] at hsr
      have HO := Lib.hid hown
      by_cases hlt : j < m
      · obtain ⟨y, hy, hcy⟩ := (HI4.out.below HBr.out).cell (j + 1) (by omega)
        rw [Nat.zero_add, Nat.add_comm j 1] at hcy
        have hyb := numB_bd (HYV.out y (List.mem_of_getElem? hy))
        obtain ⟨u, hu⟩ : ∃ u, -y % p = u := ⟨_, rfl⟩
        have hyc : TL[j]? = some u := by rw [HTG.out j hlt, show co Y (j + 1) = y from getD_at hy, hu]
        have hmx : (TL.take j ++ List.replicate (m - j) 0).set j u = TL.take (j + 1) ++ List.replicate (m - (j + 1)) 0 := by
          have := set_step TL (List.replicate m 0) j u (by rw [HTL.out, List.length_replicate]) hyc
          rwa [List.drop_replicate, List.drop_replicate] at this
        have hcell := World.ownsRow.cellAt hown j (by omega)
        have hfr := World.ownsRow.frozenAt hown j
        have hst := World.ownsRow.stored hown j (.int .i64 u)
        rw [ints_set, hmx] at hst
        obtain ⟨v0, hv0⟩ : ∃ v0, wr.cell? ⟨w2.heap.size + 1, j, none⟩ = some v0 := by
          rw [hcell]; exact ⟨_, List.getElem?_eq_getElem (by simp only [ints, List.length_map, List.length_append, List.length_take, List.length_replicate, HTL.out]; omega)⟩
        have HS := Lib.hid hst.1
        have HB9 := Lib.hid (hbel.setCell (p := ⟨w2.heap.size + 1, j, none⟩) (Nat.le_refl _) (.int .i64 u))
        obtain ⟨y0, y1, y2⟩ := HBXr.out
        have HYB := Lib.hid hyb
        have HU := Lib.hid hu
        clear hcell hst hmx hyc hy hown hbel hbel' hyb hu
        go_wp2_with (go_at_call 38; refine (negative_any2 p y _ HYB.out.2.2.1 HYB.out.2.2.2 HYB.out.1 HYB.out.2.1).mono ?_; rintro e w' ⟨rfl, rfl⟩; rw [show (p - y) % p = u by rw [← HU.out]; simp])
        go_roundw
        case rel => exact ⟨j + 1, by omega, by go_num, HS.out, HB9.out⟩
        case measure => simp [intOf]; omega
      obtain rfl : j = m := by omega
      rw [HTS.out] at HO
      have HRLd := Lib.hid ((HRL.out.below HBr.out).below (below_new_drew wr))
      have HGd := Lib.hid ((HG2.out.below HBr.out).drew)
      have HBd := Lib.hid (below_more HB2.out HBr.out).drew
      have HOd := Lib.hid (owns_below HO.out (below_new_drew wr))
      have ZS := And.intro HBXr.out.1 HBLr.out
      have Zd := And.intro HBXr.out.drew.1 HBLr.out.drew
      unfold Bx at ZS Zd
      have hfar : ∀ (W : World) (g o1 o2 : Nat) (v : Value), g ≠ w.heap.size + 1 → (W.setCell ⟨w.heap.size + 1, o1, none⟩ v).cell? ⟨g, o2, none⟩ = W.cell? ⟨g, o2, none⟩ := fun W g o1 o2 v hg => World.cell?_setCell_far _ _ _ _ (by show w.heap.size + 1 ≠ g; omega)
      clear hown hbel hbel'
      go_wp2_with (fail)
      go_region_held3 (fun w' => w'.cell? ⟨w.heap.size, 0, none⟩ = some (.int .i64 p) ∧ w'.cell? ⟨w2.heap.size, 0, none⟩ = some (.int .i64 p) ∧ w'.cell? ⟨w2.heap.size, 1, none⟩ = some (.slice A3 k c3) ∧ w'.cell? ⟨w2.heap.size, 2, none⟩ = some (.slice (some ⟨b4, 0, none⟩) (j + 1) c4)) (first | assumption | exact ZA | exact Zd | exact ZS | (refine ⟨?_, ?_, ?_, ?_⟩ <;> (simp (disch := omega) only [hfar]; first | exact ZA.1 | exact ZA.2.1 | exact ZA.2.2.1 | exact ZA.2.2.2)) | go_keep)
        ((go_at_call 39; refine (implFracTerms _ p X Y (j : Int) _ HRLd.out ge HGd.out).mono ?_; rw [HFT.out, HFL.out]; rintro e w4 ⟨A8, c8, rfl, hO, hB⟩; have HO8 := Lib.hid hO; have HB4 := Lib.hid (below_more HBd.out hB); have HO4 := Lib.hid (owns_below HOd.out hB); have ZA := And.intro (HBXr.out.drew.below hB).1 (HBLr.out.drew.below hB); unfold Bx at ZA; have HW4 := Lib.hid (HBWr.out.drew.below hB); obtain ⟨x0, x1, x2⟩ := HW4.out.c; have fz := HW4.out.fz; clear hO hB))
      all_goals
        go_wp2_with (fail)
        refine bodyPost_ret (v := .tuple #[.agg #[.int .i64 p, .slice (some ⟨w2.heap.size + 1, 0, none⟩) j j, .slice A8 j c8], .bool true]) (by simp [results, Tryd.f22, go_sem, x0, x1, x2]) rfl ?_
        rw [HR.out]
        refine madeb_put (R := some (p, TL, FT)) (B := w2.heap.size + 1) (g := w.heap.size + 1) ⟨some ⟨w2.heap.size + 1, 0, none⟩, j, A8, c8, by rw [show ((some (p, TL, FT)).getD (0, [], [])).2.1.length = _ from HTL.out, show ((some (p, TL, FT)).getD (0, [], [])).2.2.length = _ from HFL.out]; rfl, by rw [show ((some (p, TL, FT)).getD (0, [], [])).2.1.length = _ from HTL.out]; exact HO4.out, by rw [show ((some (p, TL, FT)).getD (0, [], [])).2.2.length = _ from HFL.out]; exact owns_mono HO8.out hsr, ?_⟩ HB4.out (by omega) (by omega) (by omega)
        rw [show ((some (p, TL, FT)).getD (0, [], [])).2.1.length = _ from HTL.out, show ((some (p, TL, FT)).getD (0, [], [])).2.2.length = _ from HFL.out]
        refine .inr (fun e => ?_)
        have h2 : wr.drew.heap.size ≤ w2.heap.size + 1 := (HO8.out.lt _ e.symm).1
        have h3 : w2.heap.size + 1 < wr.drew.heap.size := (HOd.out.lt _ rfl).2
        omega
  · skip
    have HD := Lib.hid (show recOfD X Y = k by rw [HDD.out]; omega)
    by_cases h6 : 6 < k
    · have HR := Lib.hid (show recOfR p U L = none by rw [HE.out, HD.out, if_neg (by omega)])
      have h6i : (6 : Int) < (k : Int) := by omega
      go_wp2_with (fail)
      refine bodyPost_ret (v := .tuple #[.agg #[.int .i64 0, .slice none 0 0, .slice none 0 0], .bool false]) (by simp [results, Tryd.f22, go_sem, x0, x1, x2]) rfl ?_
      rw [HR.out]
      exact madeb_no (below_more HB2.out HN.out) (by omega)
    have hd6 : k ≤ 6 := by omega
    have hmd : m ≤ k := by omega
    obtain ⟨TL, hTL⟩ : ∃ TL, recOfT p Y k = TL := ⟨_, rfl⟩
    obtain ⟨FT, hFT⟩ : ∃ FT, frT p X Y k = FT := ⟨_, rfl⟩
    have HR := Lib.hid (show recOfR p U L = some (p, TL, FT) by rw [HE.out, HD.out, if_pos hd6, hTL, hFT])
    have HTL := Lib.hid (show TL.length = k by rw [← hTL, recOfT_len])
    have HFL := Lib.hid (show FT.length = k by rw [← hFT, frT_len])
    have HFT := Lib.hid (show fracT p X Y (k : Int) = FT by unfold fracT; rw [if_pos ⟨HLF.out, by omega, by omega⟩, ← hFT]; rfl)
    have HTG := Lib.hid (show ∀ j, j < m → TL[j]? = some (-(co Y (j + 1)) % p) from fun j hj => by rw [← hTL]; exact recOfT_get p Y (by omega))
    have HTS := Lib.hid (show TL.take m ++ List.replicate (k - m) 0 = TL by rw [← hTL]; exact recOfT_stop HYL.out hmd)
    have hmk := run_make_row' (P := Tryd.prog) 23 3 (.int .i64 0) 8 Tryd.underlying23 infoInt rfl .i64 .i64 k (by omega) (by omega)
    have h6n : ¬ (6 : Int) < (k : Int) := by omega
    clear hTL hFT
    by_cases hc1 : c4 = 1
    · obtain rfl : m = 0 := by omega
      subst hc1
      simp only [Nat.zero_add] at *
      go_wp2_with (fail)
      go_loopw [32] (fun i wr => ∃ j : Nat, j ≤ 0 ∧ i = .int .i64 (j : Int) ∧ OI wr (w2.heap.size + 1) (some ⟨w2.heap.size + 1, 0, none⟩) k k (TL.take j ++ List.replicate (k - j) 0) ∧ Below (w2.heap.size + 1) (w2.alloc (.cells #[.int .i64 p, .slice A3 k c3, .slice (some ⟨b4, 0, none⟩) 1 1] 46)) wr) (fun i _ => 0 - (intOf i).toNat)
      case atStart =>
        have h := made_ints (w2.alloc (.cells #[.int .i64 p, .slice A3 k c3, .slice (some ⟨b4, 0, none⟩) 1 1] 46)) k (by omega)
        have hb := below_new (w2.alloc (.cells #[.int .i64 p, .slice A3 k c3, .slice (some ⟨b4, 0, none⟩) 1 1] 46)) (.cells (madeCells #[.int .i64 0] k) 3)
        rw [World.size_alloc] at h hb
        exact ⟨0, by omega, rfl, by simpa using h, hb⟩
      case round =>
        obtain ⟨j, hj, rfl, hown, hbel⟩ := hrel
        have hz3 : (w2.alloc (.cells #[.int .i64 p, .slice A3 k c3, .slice (some ⟨b4, 0, none⟩) 1 1] 46)).heap.size = w2.heap.size + 1 := by simp
        have hbel' : Below (w2.alloc (.cells #[.int .i64 p, .slice A3 k c3, .slice (some ⟨b4, 0, none⟩) 1 1] 46)).heap.size (w2.alloc (.cells #[.int .i64 p, .slice A3 k c3, .slice (some ⟨b4, 0, none⟩) 1 1] 46)) wr := by rw [hz3]; exact hbel
        have HBXr := Lib.hid ((HBX2.out.below HN.out).below hbel')
        have HBLr := Lib.hid (HBL.out.below hbel')
        have HBWr := Lib.hid (HBW3.out.below hbel')
        have HBr := Lib.hid (below_more HN.out hbel')
        have hsr := hbel'.size
        rw [hz3] at hsr
        have HO := Lib.hid hown
        obtain rfl : j = 0 := by omega
        rw [HTS.out] at HO
        have HRLd := Lib.hid ((HRL.out.below HBr.out).below (below_new_drew wr))
        have HGd := Lib.hid ((HG2.out.below HBr.out).drew)
        have HBd := Lib.hid (below_more HB2.out HBr.out).drew
        have HOd := Lib.hid (owns_below HO.out (below_new_drew wr))
        have ZS := And.intro HBXr.out.1 HBLr.out
        have Zd := And.intro HBXr.out.drew.1 HBLr.out.drew
        unfold Bx at ZS Zd
        have hfar : ∀ (W : World) (g o1 o2 : Nat) (v : Value), g ≠ w.heap.size + 1 → (W.setCell ⟨w.heap.size + 1, o1, none⟩ v).cell? ⟨g, o2, none⟩ = W.cell? ⟨g, o2, none⟩ := fun W g o1 o2 v hg => World.cell?_setCell_far _ _ _ _ (by show w.heap.size + 1 ≠ g; omega)
        clear hown hbel hbel'
        go_wp2_with (fail)
        go_region_held3 (fun w' => w'.cell? ⟨w.heap.size, 0, none⟩ = some (.int .i64 p) ∧ w'.cell? ⟨w2.heap.size, 0, none⟩ = some (.int .i64 p) ∧ w'.cell? ⟨w2.heap.size, 1, none⟩ = some (.slice A3 k c3) ∧ w'.cell? ⟨w2.heap.size, 2, none⟩ = some (.slice (some ⟨b4, 0, none⟩) 1 1)) (first | assumption | exact ZA | exact Zd | exact ZS | (refine ⟨?_, ?_, ?_, ?_⟩ <;> (simp (disch := omega) only [hfar]; first | exact ZA.1 | exact ZA.2.1 | exact ZA.2.2.1 | exact ZA.2.2.2)) | go_keep)
          ((go_at_call 39; refine (implFracTerms _ p X Y (k : Int) _ HRLd.out ge HGd.out).mono ?_; rw [HFT.out, HFL.out]; rintro e w4 ⟨A8, c8, rfl, hO, hB⟩; have HO8 := Lib.hid hO; have HB4 := Lib.hid (below_more HBd.out hB); have HO4 := Lib.hid (owns_below HOd.out hB); have ZA := And.intro (HBXr.out.drew.below hB).1 (HBLr.out.drew.below hB); unfold Bx at ZA; have HW4 := Lib.hid (HBWr.out.drew.below hB); obtain ⟨x0, x1, x2⟩ := HW4.out.c; have fz := HW4.out.fz; clear hO hB))
        all_goals
          go_wp2_with (fail)
          refine bodyPost_ret (v := .tuple #[.agg #[.int .i64 p, .slice (some ⟨w2.heap.size + 1, 0, none⟩) k k, .slice A8 k c8], .bool true]) (by simp [results, Tryd.f22, go_sem, x0, x1, x2]) rfl ?_
          rw [HR.out]
          refine madeb_put (R := some (p, TL, FT)) (B := w2.heap.size + 1) (g := w.heap.size + 1) ⟨some ⟨w2.heap.size + 1, 0, none⟩, k, A8, c8, by rw [show ((some (p, TL, FT)).getD (0, [], [])).2.1.length = _ from HTL.out, show ((some (p, TL, FT)).getD (0, [], [])).2.2.length = _ from HFL.out]; rfl, by rw [show ((some (p, TL, FT)).getD (0, [], [])).2.1.length = _ from HTL.out]; exact HO4.out, by rw [show ((some (p, TL, FT)).getD (0, [], [])).2.2.length = _ from HFL.out]; exact owns_mono HO8.out hsr, ?_⟩ HB4.out (by omega) (by omega) (by omega)
          rw [show ((some (p, TL, FT)).getD (0, [], [])).2.1.length = _ from HTL.out, show ((some (p, TL, FT)).getD (0, [], [])).2.2.length = _ from HFL.out]
          refine .inr (fun e => ?_)
          have h2 : wr.drew.heap.size ≤ w2.heap.size + 1 := (HO8.out.lt _ e.symm).1
          have h3 : w2.heap.size + 1 < wr.drew.heap.size := (HOd.out.lt _ rfl).2
          omega
    · skip
      go_wp2_with (fail)
      go_loopw [32] (fun i wr => ∃ j : Nat, j ≤ m ∧ i = .int .i64 (j : Int) ∧ OI wr (w2.heap.size + 1) (some ⟨w2.heap.size + 1, 0, none⟩) k k (TL.take j ++ List.replicate (k - j) 0) ∧ Below (w2.heap.size + 1) (w2.alloc (.cells #[.int .i64 p, .slice A3 k c3, .slice (some ⟨b4, 0, none⟩) (m + 1) c4] 46)) wr) (fun i _ => m - (intOf i).toNat)
      case atStart =>
        have h := made_ints (w2.alloc (.cells #[.int .i64 p, .slice A3 k c3, .slice (some ⟨b4, 0, none⟩) (m + 1) c4] 46)) k (by omega)
        have hb := below_new (w2.alloc (.cells #[.int .i64 p, .slice A3 k c3, .slice (some ⟨b4, 0, none⟩) (m + 1) c4] 46)) (.cells (madeCells #[.int .i64 0] k) 3)
        rw [World.size_alloc] at h hb
        exact ⟨0, by omega, rfl, by simpa using h, hb⟩
      case round =>
        obtain ⟨j, hj, rfl, hown, hbel⟩ := hrel
        have hz3 : (w2.alloc (.cells #[.int .i64 p, .slice A3 k c3, .slice (some ⟨b4, 0, none⟩) (m + 1) c4] 46)).heap.size = w2.heap.size + 1 := by simp
        have hbel' : Below (w2.alloc (.cells #[.int .i64 p, .slice A3 k c3, .slice (some ⟨b4, 0, none⟩) (m + 1) c4] 46)).heap.size (w2.alloc (.cells #[.int .i64 p, .slice A3 k c3, .slice (some ⟨b4, 0, none⟩) (m + 1) c4] 46)) wr := by rw [hz3]; exact hbel
        have HBXr := Lib.hid ((HBX2.out.below HN.out).below hbel')
        have HBLr := Lib.hid (HBL.out.below hbel')
        have HBWr := Lib.hid (HBW3.out.below hbel')
        have HBr := Lib.hid (below_more HN.out hbel')
        have hsr := hbel'.size
        rw [hz3] at hsr
        have HO := Lib.hid hown
        by_cases hlt : j < m
        · obtain ⟨y, hy, hcy⟩ := (HI4.out.below HBr.out).cell (j + 1) (by omega)
          rw [Nat.zero_add, Nat.add_comm j 1] at hcy
          have hyb := numB_bd (HYV.out y (List.mem_of_getElem? hy))
          obtain ⟨u, hu⟩ : ∃ u, -y % p = u := ⟨_, rfl⟩
          have hyc : TL[j]? = some u := by rw [HTG.out j hlt, show co Y (j + 1) = y from getD_at hy, hu]
          have hmx : (TL.take j ++ List.replicate (k - j) 0).set j u = TL.take (j + 1) ++ List.replicate (k - (j + 1)) 0 := by
            have := set_step TL (List.replicate k 0) j u (by rw [HTL.out, List.length_replicate]) hyc
            rwa [List.drop_replicate, List.drop_replicate] at this
          have hcell := World.ownsRow.cellAt hown j (by omega)
          have hfr := World.ownsRow.frozenAt hown j
          have hst := World.ownsRow.stored hown j (.int .i64 u)
          rw [ints_set, hmx] at hst
          obtain ⟨v0, hv0⟩ : ∃ v0, wr.cell? ⟨w2.heap.size + 1, j, none⟩ = some v0 := by
            rw [hcell]; exact ⟨_, List.getElem?_eq_getElem (by simp only [ints, List.length_map, List.length_append, List.length_take, List.length_replicate, HTL.out]; omega)⟩
          have HS := Lib.hid hst.1
          have HB9 := Lib.hid (hbel.setCell (p := ⟨w2.heap.size + 1, j, none⟩) (Nat.le_refl _) (.int .i64 u))
          obtain ⟨y0, y1, y2⟩ := HBXr.out
          have HYB := Lib.hid hyb
          have HU := Lib.hid hu
          clear hcell hst hmx hyc hy hown hbel hbel' hyb hu
          go_wp2_with (go_at_call 38; refine (negative_any2 p y _ HYB.out.2.2.1 HYB.out.2.2.2 HYB.out.1 HYB.out.2.1).mono ?_; rintro e w' ⟨rfl, rfl⟩; rw [show (p - y) % p = u by rw [← HU.out]; simp])
          go_roundw
          case rel => exact ⟨j + 1, by omega, by go_num, HS.out, HB9.out⟩
          case measure => simp [intOf]; omega
        obtain rfl : j = m := by omega
        rw [HTS.out] at HO
        have HRLd := Lib.hid ((HRL.out.below HBr.out).below (below_new_drew wr))
        have HGd := Lib.hid ((HG2.out.below HBr.out).drew)
        have HBd := Lib.hid (below_more HB2.out HBr.out).drew
        have HOd := Lib.hid (owns_below HO.out (below_new_drew wr))
        have ZS := And.intro HBXr.out.1 HBLr.out
        have Zd := And.intro HBXr.out.drew.1 HBLr.out.drew
        unfold Bx at ZS Zd
        have hfar : ∀ (W : World) (g o1 o2 : Nat) (v : Value), g ≠ w.heap.size + 1 → (W.setCell ⟨w.heap.size + 1, o1, none⟩ v).cell? ⟨g, o2, none⟩ = W.cell? ⟨g, o2, none⟩ := fun W g o1 o2 v hg => World.cell?_setCell_far _ _ _ _ (by show w.heap.size + 1 ≠ g; omega)
        clear hown hbel hbel'
        go_wp2_with (fail)
        go_region_held3 (fun w' => w'.cell? ⟨w.heap.size, 0, none⟩ = some (.int .i64 p) ∧ w'.cell? ⟨w2.heap.size, 0, none⟩ = some (.int .i64 p) ∧ w'.cell? ⟨w2.heap.size, 1, none⟩ = some (.slice A3 k c3) ∧ w'.cell? ⟨w2.heap.size, 2, none⟩ = some (.slice (some ⟨b4, 0, none⟩) (j + 1) c4)) (first | assumption | exact ZA | exact Zd | exact ZS | (refine ⟨?_, ?_, ?_, ?_⟩ <;> (simp (disch := omega) only [hfar]; first | exact ZA.1 | exact ZA.2.1 | exact ZA.2.2.1 | exact ZA.2.2.2)) | go_keep)
          ((go_at_call 39; refine (implFracTerms _ p X Y (k : Int) _ HRLd.out ge HGd.out).mono ?_; rw [HFT.out, HFL.out]; rintro e w4 ⟨A8, c8, rfl, hO, hB⟩; have HO8 := Lib.hid hO; have HB4 := Lib.hid (below_more HBd.out hB); have HO4 := Lib.hid (owns_below HOd.out hB); have ZA := And.intro (HBXr.out.drew.below hB).1 (HBLr.out.drew.below hB); unfold Bx at ZA; have HW4 := Lib.hid (HBWr.out.drew.below hB); obtain ⟨x0, x1, x2⟩ := HW4.out.c; have fz := HW4.out.fz; clear hO hB))
        all_goals
          go_wp2_with (fail)
          refine bodyPost_ret (v := .tuple #[.agg #[.int .i64 p, .slice (some ⟨w2.heap.size + 1, 0, none⟩) k k, .slice A8 k c8], .bool true]) (by simp [results, Tryd.f22, go_sem, x0, x1, x2]) rfl ?_
          rw [HR.out]
          refine madeb_put (R := some (p, TL, FT)) (B := w2.heap.size + 1) (g := w.heap.size + 1) ⟨some ⟨w2.heap.size + 1, 0, none⟩, k, A8, c8, by rw [show ((some (p, TL, FT)).getD (0, [], [])).2.1.length = _ from HTL.out, show ((some (p, TL, FT)).getD (0, [], [])).2.2.length = _ from HFL.out]; rfl, by rw [show ((some (p, TL, FT)).getD (0, [], [])).2.1.length = _ from HTL.out]; exact HO4.out, by rw [show ((some (p, TL, FT)).getD (0, [], [])).2.2.length = _ from HFL.out]; exact owns_mono HO8.out hsr, ?_⟩ HB4.out (by omega) (by omega) (by omega)
          rw [show ((some (p, TL, FT)).getD (0, [], [])).2.1.length = _ from HTL.out, show ((some (p, TL, FT)).getD (0, [], [])).2.2.length = _ from HFL.out]
          refine .inr (fun e => ?_)
          have h2 : wr.drew.heap.size ≤ w2.heap.size + 1 := (HO8.out.lt _ e.symm).1
          have h3 : w2.heap.size + 1 < wr.drew.heap.size := (HOd.out.lt _ rfl).2
          omega
end Go.Proofs.YtecmclaockmgeaaDoor
namespace Go.Proofs.YtecmclaockmgeaaDoor
open Go.RowKit
theorem BxW.set1 {W : World} {g : Nat} {a b c : Value} (h : BxW W g a b c) (x : Value) : BxW (W.setCell ⟨g, 1, none⟩ x) g a x c := by
  obtain ⟨⟨h0, h1, h2⟩, hf⟩ := h
  refine ⟨⟨?_, ?_, ?_⟩, fun o => (World.frozen?_setCell _ _ _ _).trans (hf o)⟩
  · rw [World.cell?_setCell_other _ ⟨g, 1, none⟩ ⟨g, 0, none⟩ _ (by simp)]; exact h0
  · exact World.cell?_setCell_same' _ _ _ (by rw [h1]; rfl)
  · rw [World.cell?_setCell_other _ ⟨g, 1, none⟩ ⟨g, 2, none⟩ _ (by simp)]; exact h2
theorem BxW.put3 {W : World} {g : Nat} {a b c : Value} (h : BxW W g a b c) (x y z : Value) : BxW (set3 W g x y z) g x y z :=
  ⟨h.put x y z, fun o => by unfold set3; rw [World.frozen?_setCell, World.frozen?_setCell, World.frozen?_setCell]; exact h.fz o⟩
end Go.Proofs.YtecmclaockmgeaaDoor
namespace Go.Proofs.YtecmclaockmgeaaDoor
open Go.RowKit
def leastRecR (p : Int) (T F : List Int) : Int × List Int × List Int := (recOfR (fracOfR p T F).1 (fracOfR p T F).2.1 (fracOfR p T F).2.2).getD (0, [], [])
theorem leastRecR_len (p : Int) (T F : List Int) : (leastRecR p T F).2.1.length ≤ 1048576 ∧ (leastRecR p T F).2.2.length ≤ 1048576 := recOfR_len _ _ _
theorem leastRecR_no {p : Int} {T F : List Int} (h : recB p T F = false) : leastRecR p T F = (0, [], []) := by
  unfold leastRecR fracOfR
  rw [if_neg (by simp [h])]
  unfold recOfR
  rw [if_neg (fun e => by have := (fracB_true e.1).2.2.2.2.1; simp at this)]
  rfl
set_option maxRecDepth 100000 in
set_option maxHeartbeats 4000000 in
theorem implRecLeast (v : Value) (p : Int) (T F : List Int) (w : World) (h : RV w v p T F) (ge : Addr) (hge : GE w ge) :
    Calls Tryd.prog 9 #[v] w (MadeR (leastRecR p T F).1 (leastRecR p T F).2.1 (leastRecR p T F).2.2 w) := by
  obtain ⟨A, n, c, b, o, A', n', c', b', o', rfl, g1, g2⟩ := h
  have hbx := (Bx.new w (.int .i64 p) (.slice A n c) (.slice A' n' c') 25).below (below_new _ (.cells #[.int .i64 0, .slice none 0 0, .slice none 0 0] 25))
  have hbw := BxW.new (w.alloc (.cells #[.int .i64 p, .slice A n c, .slice A' n' c'] 25)) (.int .i64 0) (.slice none 0 0) (.slice none 0 0) 25
  rw [World.size_alloc] at hbw
  have hB0 := ((Below.refl w.heap.size w).alloc (Nat.le_refl _) (.cells #[.int .i64 p, .slice A n c, .slice A' n' c'] 25)).alloc (by simp) (.cells #[.int .i64 0, .slice none 0 0, .slice none 0 0] 25)
  have HV0 := Lib.hid (show RV _ (.agg #[.int .i64 p, .slice A n c, .slice A' n' c']) p T F from ⟨_, _, _, _, _, _, _, _, _, _, rfl, g1.below hB0, g2.below hB0⟩)
  have HBX := Lib.hid hbx
  have HBW := Lib.hid hbw
  have HG0 := Lib.hid (hge.below hB0)
  have HB0 := Lib.hid hB0
  clear hge g1 g2 hbx hbw hB0
  rcases hv : recB p T F
  · have HV := Lib.hid hv
    have HE := Lib.hid (leastRecR_no hv)
    clear hv
    go_enter Tryd.func9, Tryd.ntmps9
    go_wp2_with (go_at_call 7; refine (implRecValid _ p T F _ HV0.out).mono ?_; rintro e w1 ⟨rfl, hB⟩; rw [HV.out]; have HB1 := Lib.hid (below_more HB0.out hB); have hbw := HBW.out.below hB; have x0 := hbw.c.1; have x1 := hbw.c.2.1; have x2 := hbw.c.2.2; have fz := hbw.fz; clear hB hbw)
    refine bodyPost_ret (v := .agg #[.int .i64 0, .slice none 0 0, .slice none 0 0]) (by simp [results, Tryd.f9, go_sem, x0, x1, x2]) rfl ?_
    rw [HE.out]
    exact made_zero HB1.out (by omega)
  have HV := Lib.hid hv
  obtain ⟨⟨FP, FU, FL⟩, hF⟩ : ∃ R, fracOfR p T F = R := ⟨_, rfl⟩
  obtain ⟨⟨RP, RT, RF⟩, hR⟩ : ∃ R, leastRecR p T F = R := ⟨_, rfl⟩
  have HF := Lib.hid hF
  have HR := Lib.hid hR
  have HRR := Lib.hid (show (recOfR FP FU FL).getD (0, [], []) = (RP, RT, RF) by have h := hR; unfold leastRecR at h; rw [hF] at h; exact h)
  clear hv hF hR
  go_enter Tryd.func9, Tryd.ntmps9
  go_wp2_with (go_at_call 7; refine (implRecValid _ p T F _ HV0.out).mono ?_; rintro e w1 ⟨rfl, hB⟩; rw [HV.out]; have HB1 := Lib.hid (below_more HB0.out hB); have HBW1 := Lib.hid (HBW.out.below hB); have HBX1 := Lib.hid (HBX.out.below hB); have HVa := Lib.hid (HV0.out.below hB); have HG1 := Lib.hid (HG0.out.below hB); have y0 := HBX1.out.1; have y1 := HBX1.out.2.1; have y2 := HBX1.out.2.2; clear hB)
  refine (implFracOf _ p T F _ HVa.out ge HG1.out).mono ?_
  rw [HF.out]
  rintro e w2 ⟨v9, rfl, hO, hB⟩
  have HO9 := Lib.hid hO.rv
  have HB2 := Lib.hid (below_more HB1.out hB)
  have HBW2 := Lib.hid (HBW1.out.below hB)
  have HG2 := Lib.hid (HG1.out.below hB)
  clear hO hB y0 y1 y2
  go_wp2_with (fail)
  refine (implRecOf v9 FP FU FL _ HO9.out ge HG2.out).mono ?_
  rintro e w3 ⟨v8, rfl, hO, hB⟩
  rw [HRR.out] at hO
  obtain ⟨A3, c3, A4, c4, rfl, hO1, hO2, hap⟩ := hO
  have HRO := Lib.hid (show RO w3 w2.heap.size (.agg #[.int .i64 RP, .slice A3 RT.length c3, .slice A4 RF.length c4]) RP RT RF from ⟨A3, c3, A4, c4, rfl, hO1, hO2, hap⟩)
  have hs2 := HB2.out.size
  have hlo2 := HBW2.out.c.lt
  have HB3 := Lib.hid (below_more HB2.out hB)
  have HBW3 := Lib.hid ((HBW2.out.below hB).below (below_new w3 (.cells #[.int .i64 RP, .slice A3 RT.length c3, .slice A4 RF.length c4] 25)))
  obtain ⟨x0, x1, x2⟩ := HBW3.out.c
  have fz := HBW3.out.fz
  clear hO1 hO2 hap hB
  go_wp2_with (fail)
  refine bodyPost_ret (v := .agg #[.int .i64 RP, .slice A3 RT.length c3, .slice A4 RF.length c4]) (by simp [results, Tryd.f9, go_sem, x0, x1, x2]) rfl ?_
  rw [HR.out]
  exact made_put (g := w.heap.size + 1) (HRO.out.below (below_new w3 _)) (below_more HB3.out (below_new w3 _)) hs2 (by omega) hlo2
end Go.Proofs.YtecmclaockmgeaaDoor
namespace Go.Proofs.YtecmclaockmgeaaDoor
/-- the numbers v, one a column, whose sum with each row is 0 -/
def Ker (p : Int) (n l : Nat) (f : Nat → Nat → Int) (v : Nat → Int) : Prop := ∀ i, i < n → p ∣ sigN l (fun j => f i j * v j)
theorem getQ (l : List (List Int)) (q : Nat) : l.getD q [] = (l[q]?).getD [] := List.getD_eq_getElem?_getD
theorem at2_swap {M : List (List Int)} {i j : Nat} (hi : i < M.length) (hj : j < M.length) (a b : Nat) : at2 (swapM M i j) a b = if a = j then at2 M i b else if a = i then at2 M j b else at2 M a b := by
  unfold at2 swapM
  by_cases h1 : a = j
  · subst h1
    rw [if_pos rfl, getQ, List.getElem?_set_self (by simpa using hj)]; rfl
  · rw [if_neg h1, getQ, List.getElem?_set_ne (fun e => h1 e.symm)]
    by_cases h2 : a = i
    · subst h2
      rw [if_pos rfl, List.getElem?_set_self hi]; rfl
    · rw [if_neg h2, List.getElem?_set_ne (fun e => h2 e.symm), ← getQ]
theorem at2_setRow {M : List (List Int)} {i : Nat} {row : List Int} (hi : i < M.length) (a b : Nat) : at2 (M.set i row) a b = if a = i then row.getD b 0 else at2 M a b := by
  unfold at2
  by_cases h : a = i
  · subst h; rw [if_pos rfl, getQ, List.getElem?_set_self hi]; rfl
  · rw [if_neg h, getQ, List.getElem?_set_ne (fun e => h e.symm), ← getQ]
theorem scaleRow_at (p t : Int) (row : List Int) (b : Nat) : (scaleRow p t row).getD b 0 = row.getD b 0 * t % p := by
  unfold scaleRow
  rw [List.getD_eq_getElem?_getD, List.getElem?_map, List.getD_eq_getElem?_getD]
  cases row[b]? <;> simp
theorem subRow_at (p t : Int) (xs ys : List Int) (h : xs.length = ys.length) (b : Nat) : (subRow p t xs ys).getD b 0 = (xs.getD b 0 - t * ys.getD b 0) % p := by
  unfold subRow
  rw [List.getD_eq_getElem?_getD, List.getElem?_zipWith, List.getD_eq_getElem?_getD, List.getD_eq_getElem?_getD]
  by_cases hb : b < xs.length
  · rw [List.getElem?_eq_getElem hb, List.getElem?_eq_getElem (by omega)]; rfl
  · rw [List.getElem?_eq_none (by omega), List.getElem?_eq_none (by omega)]; simp
theorem at2_clear {p : Int} {l : Nat} {M : List (List Int)} (h : VM p l M) {top col : Nat} (ht : top < M.length) {a : Nat} (ha : a < M.length) (b : Nat) :
    at2 (clearM p M top col) a b = if a = top then at2 M a b else (at2 M a b - at2 M a col * at2 M top b) % p := by
  have e : at2 (clearM p M top col) a b = (clearRow p M top col a).getD b 0 := by
    unfold at2; rw [getQ, clearM_get _ _ _ _ _ ha]; rfl
  rw [e]
  unfold clearRow
  split
  · rfl
  · rw [subRow_at _ _ _ _ (by rw [(h.getD ha).1, (h.getD ht).1])]; rfl
theorem at2_choose {p : Int} {M : List (List Int)} {r top col : Nat} (hr : r < M.length) (ht : top < M.length) (a b : Nat) :
    at2 (chooseM p M r top col) a b = if a = top then at2 M r b * invM p (at2 M r col) % p else if a = r then at2 M top b else at2 M a b := by
  have hs : (swapM M r top).length = M.length := swapM_len _ _ _
  have e0 : ∀ b, ((swapM M r top).getD top []).getD b 0 = at2 M r b := fun b => by
    have := at2_swap hr ht top b
    rw [if_pos rfl] at this; exact this
  unfold chooseM
  rw [at2_setRow (by rw [hs]; exact ht)]
  by_cases h : a = top
  · rw [if_pos h, if_pos h, scaleRow_at, e0]
    have : at2 (swapM M r top) top col = at2 M r col := e0 col
    rw [this]
  · rw [if_neg h, if_neg h, at2_swap hr ht, if_neg h]
end Go.Proofs.YtecmclaockmgeaaDoor
namespace Go.Proofs.YtecmclaockmgeaaDoor
/-- where a row comes from when two are exchanged -/
def swp (r top a : Nat) : Nat := if a = top then r else if a = r then top else a
theorem swp_swp (r top a : Nat) : swp r top (swp r top a) = a := by
  unfold swp
  by_cases h1 : a = top <;> by_cases h2 : a = r <;> simp_all
  all_goals (split <;> simp_all)
/-- the matrix behind one step of the elimination -/
def stepM (p : Int) (N : List (List Int)) (r top c : Nat) : List (List Int) := clearM p (chooseM p N r top c) top c
theorem stepM_top {p : Int} {l : Nat} {N : List (List Int)} (hp : primeB p = true) (h : VM p l N) {r top c : Nat} (hr : r < N.length) (ht : top < N.length) (b : Nat) :
    at2 (stepM p N r top c) top b = at2 N r b * invM p (at2 N r c) % p := by
  unfold stepM
  rw [at2_clear (h.choose hp hr ht) (by rw [chooseM_len]; exact ht) (by rw [chooseM_len]; exact ht), if_pos rfl, at2_choose hr ht, if_pos rfl]
theorem stepM_at {p : Int} {l : Nat} {N : List (List Int)} (hp : primeB p = true) (h : VM p l N) {r top c : Nat} (hr : r < N.length) (ht : top < N.length) {a : Nat} (ha : a < N.length) (hat : a ≠ top) (b : Nat) :
    at2 (stepM p N r top c) a b = (at2 N (swp r top a) b - at2 N (swp r top a) c * at2 (stepM p N r top c) top b) % p := by
  have e : ∀ b, at2 (chooseM p N r top c) a b = at2 N (swp r top a) b := fun b => by
    rw [at2_choose hr ht, if_neg hat]
    unfold swp
    rw [if_neg hat]
    split <;> rfl
  rw [stepM_top hp h hr ht]
  unfold stepM
  rw [at2_clear (h.choose hp hr ht) (by rw [chooseM_len]; exact ht) (by rw [chooseM_len]; exact ha), if_neg hat, e, e, at2_choose hr ht, if_pos rfl]
theorem stepM_len (p : Int) (N : List (List Int)) (r top c : Nat) : (stepM p N r top c).length = N.length := by unfold stepM; rw [clearM_len, chooseM_len]
theorem swp_lt {r top a n : Nat} (hr : r < n) (ht : top < n) (ha : a < n) : swp r top a < n := by
  unfold swp
  split
  · exact hr
  · split
    · exact ht
    · exact ha
theorem stepM_ker {p : Int} {l : Nat} {N : List (List Int)} (hp : primeB p = true) (h : VM p l N) {r top c : Nat} (hr : r < N.length) (ht : top < N.length) (hu : p ∣ at2 N r c * invM p (at2 N r c) - 1) (v : Nat → Int) :
    Ker p N.length l (at2 (stepM p N r top c)) v ↔ Ker p N.length l (at2 N) v := by
  obtain ⟨u, hu'⟩ : ∃ u, invM p (at2 N r c) = u := ⟨_, rfl⟩
  have htop : p ∣ sigN l (fun j => at2 (stepM p N r top c) top j * v j) - u * sigN l (fun j => at2 N r j * v j) := by
    rw [← sigN_mul]
    refine sigN_near fun k _ => ?_
    rw [stepM_top hp h hr ht, hu', show at2 N r k * u % p * v k - u * (at2 N r k * v k) = (at2 N r k * u % p - at2 N r k * u) * v k by grind]
    exact dvd_mulR (near_mod _ _) _
  have hrow : ∀ a, a < N.length → a ≠ top → p ∣ sigN l (fun j => at2 (stepM p N r top c) a j * v j) - (sigN l (fun j => at2 N (swp r top a) j * v j) - at2 N (swp r top a) c * sigN l (fun j => at2 (stepM p N r top c) top j * v j)) := by
    intro a ha hat
    rw [← sigN_mul, ← sigN_sub]
    refine sigN_near fun k _ => ?_
    rw [stepM_at hp h hr ht ha hat]
    obtain ⟨y, hy⟩ : ∃ y, at2 (stepM p N r top c) top k = y := ⟨_, rfl⟩
    rw [hy]
    obtain ⟨z, hz⟩ : ∃ z, at2 N (swp r top a) k = z := ⟨_, rfl⟩
    obtain ⟨t, htt⟩ : ∃ t, at2 N (swp r top a) c = t := ⟨_, rfl⟩
    rw [hz, htt, show (z - t * y) % p * v k - (z * v k - t * (y * v k)) = ((z - t * y) % p - (z - t * y)) * v k by grind]
    exact dvd_mulR (near_mod _ _) _
  rw [hu'] at hu
  constructor
  · intro hk
    have h0 : p ∣ u * sigN l (fun j => at2 N r j * v j) := (near_move htop).1 (hk top ht)
    have hS : p ∣ sigN l (fun j => at2 N r j * v j) := by
      obtain ⟨S, hS⟩ : ∃ S, sigN l (fun j => at2 N r j * v j) = S := ⟨_, rfl⟩
      rw [hS] at h0 ⊢
      obtain ⟨x, hx⟩ : ∃ x, at2 N r c = x := ⟨_, rfl⟩
      rw [hx] at hu
      have h1 := Int.dvd_sub (dvd_mulL h0 x) (dvd_mulR hu S)
      rwa [show x * (u * S) - (x * u - 1) * S = S by grind] at h1
    intro i hi
    by_cases hir : i = r
    · subst hir; exact hS
    · have hs : swp r top i ≠ top := by
        intro e
        have := swp_swp r top i
        rw [e] at this
        unfold swp at this
        rw [if_pos rfl] at this
        exact hir this.symm
      have h1 := hrow (swp r top i) (swp_lt hr ht hi) hs
      rw [swp_swp] at h1
      have h2 := (near_move h1).1 (hk _ (swp_lt hr ht hi))
      have h3 := Int.dvd_add h2 (dvd_mulL (hk top ht) (at2 N i c))
      obtain ⟨T, hT⟩ : ∃ T, sigN l (fun j => at2 (stepM p N r top c) top j * v j) = T := ⟨_, rfl⟩
      rw [hT] at h3
      rwa [show sigN l (fun j => at2 N i j * v j) - at2 N i c * T + at2 N i c * T = sigN l (fun j => at2 N i j * v j) by omega] at h3
  · intro hk
    have h0 : p ∣ sigN l (fun j => at2 (stepM p N r top c) top j * v j) := (near_move htop).2 (dvd_mulL (hk r hr) u)
    intro a ha
    by_cases hat : a = top
    · subst hat; exact h0
    · exact (near_move (hrow a ha hat)).2 (Int.dvd_sub (hk _ (swp_lt hr ht ha)) (dvd_mulL h0 _))
/-- unit columns, rows that begin behind each other, rows of 0 -/
structure Red (n c : Nat) (f : Nat → Nat → Int) (hs : List Nat) : Prop where
  lt : ∀ k, k < hs.length → hs.getD k 0 < c
  inc : ∀ k k', k < k' → k' < hs.length → hs.getD k 0 < hs.getD k' 0
  le : hs.length ≤ n
  one : ∀ k, k < hs.length → ∀ i, i < n → f i (hs.getD k 0) = if i = k then 1 else 0
  low : ∀ i, hs.length ≤ i → i < n → ∀ j, j < c → f i j = 0
  pre : ∀ k, k < hs.length → ∀ j, j < hs.getD k 0 → f k j = 0
theorem getD_snoc {hs : List Nat} {c k : Nat} : (hs ++ [c]).getD k 0 = if k < hs.length then hs.getD k 0 else if k = hs.length then c else 0 := by
  simp only [List.getD_eq_getElem?_getD]
  by_cases h : k < hs.length
  · rw [if_pos h, List.getElem?_append_left h]
  · rw [if_neg h, List.getElem?_append_right (by omega)]
    by_cases h2 : k = hs.length
    · subst h2; simp
    · rw [if_neg h2, List.getElem?_eq_none (by simp; omega)]; rfl
theorem mod_01 {p : Int} (hp : 2 ≤ p) (b : Prop) [Decidable b] : (if b then (1 : Int) else 0) % p = if b then 1 else 0 := by
  split
  · exact Int.emod_eq_of_lt (by omega) (by omega)
  · simp
theorem Red.step {p : Int} {l : Nat} {N : List (List Int)} (hp : primeB p = true) (h : VM p l N) {hs : List Nat} {c r : Nat} (hR : Red N.length c (at2 N) hs) (hr1 : hs.length ≤ r) (hr : r < N.length) (hx : at2 N r c * invM p (at2 N r c) % p = 1) :
    Red N.length (c + 1) (at2 (stepM p N r hs.length c)) (hs ++ [c]) := by
  have hpb := prime_ge hp
  have ht : hs.length < N.length := by omega
  have hT := stepM_top hp h hr ht (c := c)
  have hA := fun {a : Nat} (ha : a < N.length) (hat : a ≠ hs.length) => stepM_at hp h hr ht (c := c) ha hat
  have top0 : ∀ j, j < c → at2 (stepM p N r hs.length c) hs.length j = 0 := fun j hj => by rw [hT, hR.low r hr1 hr j hj]; simp
  have topc : at2 (stepM p N r hs.length c) hs.length c = 1 := by rw [hT, hx]
  have colc : ∀ a, a < N.length → a ≠ hs.length → at2 (stepM p N r hs.length c) a c = 0 := fun a ha hat => by
    rw [hA ha hat, topc, Int.mul_one, Int.sub_self]; simp
  have oth : ∀ a, a < N.length → a ≠ hs.length → ∀ j, j < c → at2 (stepM p N r hs.length c) a j = at2 N (swp r hs.length a) j % p := fun a ha hat j hj => by
    rw [hA ha hat, top0 j hj, Int.mul_zero, Int.sub_zero]
  have sge : ∀ a, hs.length ≤ a → hs.length ≤ swp r hs.length a := fun a ha => by
    unfold swp; split
    · exact hr1
    · split <;> omega
  have slo : ∀ a, a < hs.length → swp r hs.length a = a := fun a ha => by unfold swp; rw [if_neg (by omega), if_neg (by omega)]
  refine ⟨fun k hk => ?_, fun k k' hkk hk' => ?_, by simp; omega, fun k hk i hi => ?_, fun i hi1 hi j hj => ?_, fun k hk j hj => ?_⟩
  · rw [getD_snoc]
    simp at hk
    split
    · have := hR.lt k (by omega); omega
    · split <;> omega
  · simp at hk'
    rw [getD_snoc, getD_snoc, if_pos (by omega)]
    by_cases h2 : k' < hs.length
    · rw [if_pos h2]; exact hR.inc k k' hkk h2
    · rw [if_neg h2, if_pos (by omega)]; exact hR.lt k (by omega)
  · simp at hk
    rw [getD_snoc]
    by_cases h2 : k < hs.length
    · rw [if_pos h2]
      have hlt := hR.lt k h2
      by_cases hit : i = hs.length
      · subst hit
        rw [top0 _ hlt, if_neg (by omega)]
      · rw [oth i hi hit _ hlt, hR.one k h2 _ (swp_lt hr ht hi), mod_01 hpb.1]
        by_cases hil : i < hs.length
        · rw [slo i hil]
        · have := sge i (by omega)
          rw [if_neg (by omega), if_neg (by omega)]
    · rw [if_neg h2, if_pos (by omega)]
      obtain rfl : k = hs.length := by omega
      by_cases hit : i = hs.length
      · subst hit; rw [topc, if_pos rfl]
      · rw [colc i hi hit, if_neg hit]
  · simp at hi1
    by_cases hjc : j = c
    · subst hjc; exact colc i hi (by omega)
    · rw [oth i hi (by omega) j (by omega), hR.low _ (sge i (by omega)) (swp_lt hr ht hi) j (by omega)]; simp
  · simp at hk
    rw [getD_snoc] at hj
    by_cases h2 : k < hs.length
    · rw [if_pos h2] at hj
      have hlt := hR.lt k h2
      rw [oth k (by omega) (by omega) j (by omega), slo k h2, hR.pre k h2 j hj]; simp
    · rw [if_neg h2, if_pos (by omega)] at hj
      obtain rfl : k = hs.length := by omega
      exact top0 j hj
end Go.Proofs.YtecmclaockmgeaaDoor
namespace Go.Proofs.YtecmclaockmgeaaDoor
open Go.RowKit
def kerFill (p : Int) (F : List (List Int)) (hs : List Nat) (c l : Nat) : Nat → List Int
  | 0 => (List.replicate l 0).set c 1
  | k + 1 => (kerFill p F hs c l k).set (hs.getD k 0) (-(at2 F k c) % p)
theorem kerFill_len (p : Int) (F : List (List Int)) (hs : List Nat) (c l : Nat) : ∀ k, (kerFill p F hs c l k).length = l
  | 0 => by simp [kerFill]
  | k + 1 => by simp [kerFill, kerFill_len p F hs c l k]
def kerM (p : Int) (F : List (List Int)) (hs : List Nat) (l : Nat) : Nat → List (List Int)
  | 0 => []
  | c + 1 => if c ∈ hs then kerM p F hs l c else kerM p F hs l c ++ [kerFill p F hs c l hs.length]
theorem kerM_stay {p : Int} {F : List (List Int)} {hs : List Nat} {l c : Nat} (h : c ∈ hs) : kerM p F hs l (c + 1) = kerM p F hs l c := by
  show (if c ∈ hs then _ else _) = _
  rw [if_pos h]
theorem kerM_go {p : Int} {F : List (List Int)} {hs : List Nat} {l c : Nat} (h : c ∉ hs) : kerM p F hs l (c + 1) = kerM p F hs l c ++ [kerFill p F hs c l hs.length] := by
  show (if c ∈ hs then _ else _) = _
  rw [if_neg h]
theorem kerM_len_le (p : Int) (F : List (List Int)) (hs : List Nat) (l : Nat) : ∀ c, (kerM p F hs l c).length ≤ c
  | 0 => by simp [kerM]
  | c + 1 => by
    have := kerM_len_le p F hs l c
    by_cases h : c ∈ hs
    · rw [kerM_stay h]; omega
    · rw [kerM_go h]; simp; omega
def kernelR (p : Int) (M : List (List Int)) : List (List Int) :=
  if matB p M = true then kerM p (elim p M (M.headD []).length).1 (elim p M (M.headD []).length).2 (M.headD []).length (M.headD []).length else []
theorem kernelR_yes {p : Int} {M : List (List Int)} (h : matB p M = true) : kernelR p M = kerM p (elim p M (M.headD []).length).1 (elim p M (M.headD []).length).2 (M.headD []).length (M.headD []).length := by unfold kernelR; rw [if_pos h]
theorem kernelR_no {p : Int} {M : List (List Int)} (h : matB p M = false) : kernelR p M = [] := by unfold kernelR; rw [if_neg (by simp [h])]
theorem elim_heads (p : Int) (M : List (List Int)) : ∀ c, ∀ h ∈ (elim p M c).2, h < c
  | 0 => by intro h hh; simp [elim] at hh
  | c + 1 => by
    intro h hh
    change h ∈ (stepE p (elim p M c).1 (elim p M c).2 c).2 at hh
    unfold stepE at hh
    split at hh
    · have := elim_heads p M c h hh; omega
    · rcases List.mem_append.1 hh with hh | hh
      · have := elim_heads p M c h hh; omega
      · simp at hh; omega
theorem headI_mem {hs : List Nat} {c : Nat} : (c : Int) ∈ headI hs ↔ c ∈ hs := by
  unfold headI
  rw [List.mem_map]
  exact ⟨fun ⟨a, h1, h2⟩ => by have : a = c := by omega
                               exact this ▸ h1, fun h => ⟨c, h, rfl⟩⟩
theorem headI_get {hs : List Nat} {k : Nat} (h : k < hs.length) : (headI hs)[k]? = some ((hs.getD k 0 : Nat) : Int) := by
  unfold headI; rw [List.getElem?_map, List.getD_eq_getElem?_getD, List.getElem?_eq_getElem h]; rfl
theorem getD_mem_nat {hs : List Nat} {k : Nat} (h : k < hs.length) : hs.getD k 0 ∈ hs := by
  rw [List.getD_eq_getElem?_getD, List.getElem?_eq_getElem h]; exact List.getElem_mem h
def IndexPost (v : Int) (xs : List Int) (w : World) (e : Ending) (w' : World) : Prop := (∃ x : Int, e = .returned (.int .i64 x) ∧ decide (x ≥ 0) = decide (v ∈ xs)) ∧ w = w'
def BoolSame (t : Bool) (w : World) (e : Ending) (w' : World) : Prop := e = .returned (.bool t) ∧ w = w'
end Go.Proofs.YtecmclaockmgeaaDoor
namespace Go.Proofs.YtecmclaockmgeaaDoor
theorem elim_some {p : Int} {M : List (List Int)} {c r : Nat} (h : firstW (elim p M c).1 c ((elim p M c).1.length - (elim p M c).2.length) (elim p M c).2.length = some r) :
    elim p M (c + 1) = (stepM p (elim p M c).1 r (elim p M c).2.length c, (elim p M c).2 ++ [c]) := by
  show stepE p (elim p M c).1 (elim p M c).2 c = _
  unfold stepE
  rw [h]; rfl
theorem elim_none {p : Int} {M : List (List Int)} {c : Nat} (h : firstW (elim p M c).1 c ((elim p M c).1.length - (elim p M c).2.length) (elim p M c).2.length = none) : elim p M (c + 1) = elim p M c := by
  show stepE p (elim p M c).1 (elim p M c).2 c = _
  unfold stepE
  rw [h]
theorem elim_red {p : Int} (hp : primeB p = true) {l : Nat} {M : List (List Int)} (h : VM p l M) : ∀ c, c ≤ l → Red M.length c (at2 (elim p M c).1) (elim p M c).2
  | 0, _ => ⟨fun k hk => by simp [elim] at hk, fun k k' _ hk' => by simp [elim] at hk', by simp [elim], fun k hk => by simp [elim] at hk, fun i _ _ j hj => absurd hj (by omega), fun k hk => by simp [elim] at hk⟩
  | c + 1, hc => by
    have hR := elim_red hp h c (by omega)
    obtain ⟨h1, h2, h3, _⟩ := elim_inv hp h c
    rcases hf : firstW (elim p M c).1 c ((elim p M c).1.length - (elim p M c).2.length) (elim p M c).2.length with _ | r
    · rw [elim_none hf]
      refine ⟨fun k hk => by have := hR.lt k hk; omega, hR.inc, hR.le, hR.one, fun i hi1 hi j hj => ?_, hR.pre⟩
      by_cases e : j = c
      · subst e; exact firstW_none hf i hi1 (by omega)
      · exact hR.low i hi1 hi j (by omega)
    · obtain ⟨g1, g2, g3, _⟩ := firstW_some hf
      rw [elim_some hf]
      have hn := numB_true (h2.at2 (i := r) (j := c) (by omega) (by omega))
      rw [← h1] at hR ⊢
      exact hR.step hp h2 g1 (by omega) (inv_ok hp hn.2.1 hn.2.2 g3)
theorem elim_ker {p : Int} (hp : primeB p = true) {l : Nat} {M : List (List Int)} (h : VM p l M) (v : Nat → Int) : ∀ c, c ≤ l → (Ker p M.length l (at2 (elim p M c).1) v ↔ Ker p M.length l (at2 M) v)
  | 0, _ => Iff.rfl
  | c + 1, hc => by
    have hi := elim_ker hp h v c (by omega)
    obtain ⟨h1, h2, h3, _⟩ := elim_inv hp h c
    rcases hf : firstW (elim p M c).1 c ((elim p M c).1.length - (elim p M c).2.length) (elim p M c).2.length with _ | r
    · rw [elim_none hf]; exact hi
    · obtain ⟨g1, g2, g3, _⟩ := firstW_some hf
      rw [elim_some hf]
      have hn := numB_true (h2.at2 (i := r) (j := c) (by omega) (by omega))
      have hx := inv_ok hp hn.2.1 hn.2.2 g3
      rw [← h1] at hi ⊢
      refine (stepM_ker hp h2 (by omega) (by omega) ?_ v).trans hi
      have := near_mod p (at2 (elim p M c).1 r c * invM p (at2 (elim p M c).1 r c))
      rw [hx] at this
      have h5 := Int.dvd_neg.2 this
      rwa [show -(1 - at2 (elim p M c).1 r c * invM p (at2 (elim p M c).1 r c)) = at2 (elim p M c).1 r c * invM p (at2 (elim p M c).1 r c) - 1 by omega] at h5
/-- the vector of a column that begins no row -/
def freeV (p : Int) (F : List (List Int)) (hs : List Nat) (c l : Nat) (j : Nat) : Int := (kerFill p F hs c l hs.length).getD j 0
theorem kerFill_col {p : Int} {F : List (List Int)} {hs : List Nat} {c l : Nat} (hc : c < l) : ∀ k, k ≤ hs.length → (∀ q, q < k → hs.getD q 0 ≠ c) → (kerFill p F hs c l k).getD c 0 = 1
  | 0, _, _ => by
    show ((List.replicate l (0 : Int)).set c 1).getD c 0 = 1
    rw [List.getD_eq_getElem?_getD, List.getElem?_set_self (by simpa using hc)]; rfl
  | k + 1, hk, h => by
    show ((kerFill p F hs c l k).set (hs.getD k 0) (-(at2 F k c) % p)).getD c 0 = 1
    rw [List.getD_eq_getElem?_getD, List.getElem?_set_ne (h k (by omega)), ← List.getD_eq_getElem?_getD]
    exact kerFill_col hc k (by omega) (fun q hq => h q (by omega))
theorem kerFill_head {p : Int} {F : List (List Int)} {hs : List Nat} {c l : Nat} (hl : ∀ q, q < hs.length → hs.getD q 0 < l) (hd : ∀ q q', q < q' → q' < hs.length → hs.getD q 0 < hs.getD q' 0) : ∀ k, k ≤ hs.length → ∀ q, q < k → (kerFill p F hs c l k).getD (hs.getD q 0) 0 = -(at2 F q c) % p
  | 0, _, _, hq => absurd hq (by omega)
  | k + 1, hk, q, hq => by
    show ((kerFill p F hs c l k).set (hs.getD k 0) (-(at2 F k c) % p)).getD (hs.getD q 0) 0 = _
    rw [List.getD_eq_getElem?_getD]
    by_cases e : q = k
    · subst e
      rw [List.getElem?_set_self (by rw [kerFill_len]; exact hl q (by omega))]; rfl
    · have := hd q k (by omega) (by omega)
      rw [List.getElem?_set_ne (by omega), ← List.getD_eq_getElem?_getD]
      exact kerFill_head hl hd k (by omega) q (by omega)
theorem kerFill_off {p : Int} {F : List (List Int)} {hs : List Nat} {c l j : Nat} (hj : j ≠ c) : ∀ k, (∀ q, q < k → hs.getD q 0 ≠ j) → (kerFill p F hs c l k).getD j 0 = 0
  | 0, _ => by
    show ((List.replicate l (0 : Int)).set c 1).getD j 0 = 0
    rw [List.getD_eq_getElem?_getD, List.getElem?_set_ne (fun e => hj e.symm), List.getElem?_replicate]
    split <;> rfl
  | k + 1, h => by
    show ((kerFill p F hs c l k).set (hs.getD k 0) (-(at2 F k c) % p)).getD j 0 = 0
    rw [List.getD_eq_getElem?_getD, List.getElem?_set_ne (h k (by omega)), ← List.getD_eq_getElem?_getD]
    exact kerFill_off hj k (fun q hq => h q (by omega))
theorem notin_getD {hs : List Nat} {c : Nat} (h : c ∉ hs) : ∀ q, q < hs.length → hs.getD q 0 ≠ c := fun _ hq e => h (e ▸ getD_mem_nat hq)
theorem mem_getD {hs : List Nat} {c : Nat} (h : c ∈ hs) : ∃ q, q < hs.length ∧ hs.getD q 0 = c := by
  obtain ⟨q, hq, he⟩ := List.getElem_of_mem h
  exact ⟨q, hq, by rw [List.getD_eq_getElem?_getD, List.getElem?_eq_getElem hq, he]; rfl⟩
/-- what is taken to 0: the vector of a free column -/
theorem free_ker {p : Int} {n l c : Nat} {F : List (List Int)} {hs : List Nat} (hR : Red n l (at2 F) hs) (hc : c < l) (hf : c ∉ hs) : Ker p n l (at2 F) (freeV p F hs c l) := by
  intro i hi
  have hn := notin_getD hf
  have hcol : freeV p F hs c l c = 1 := kerFill_col hc _ (Nat.le_refl _) hn
  by_cases hk : i < hs.length
  · have hh : freeV p F hs c l (hs.getD i 0) = -(at2 F i c) % p := kerFill_head hR.lt hR.inc _ (Nat.le_refl _) i hk
    rw [sigN_two (c := c) (d := hs.getD i 0) (fun e => hn i hk e.symm) hc (hR.lt i hk) (fun j hj h1 h2 => ?_)]
    · rw [hcol, hh, hR.one i hk i hi, if_pos rfl]
      have := near_mod p (-(at2 F i c))
      rwa [show at2 F i c * 1 + 1 * (-at2 F i c % p) = -at2 F i c % p - -at2 F i c by omega]
    · by_cases hm : j ∈ hs
      · obtain ⟨q, hq, rfl⟩ := mem_getD hm
        rw [hR.one q hq i hi, if_neg (fun e => h2 (by rw [e]))]; simp
      · have : freeV p F hs c l j = 0 := kerFill_off h1 _ (notin_getD hm)
        rw [this]; simp
  · rw [sigN_zero (fun j hj => by rw [hR.low i (by omega) hi j hj]; simp)]
    exact Int.dvd_zero p
theorem free_after {p : Int} {n l c : Nat} {F : List (List Int)} {hs : List Nat} (hR : Red n l (at2 F) hs) (j : Nat) (hj : c < j) : freeV p F hs c l j = 0 := by
  by_cases hm : j ∈ hs
  · obtain ⟨q, hq, rfl⟩ := mem_getD hm
    have hh : freeV p F hs c l (hs.getD q 0) = -(at2 F q c) % p := kerFill_head hR.lt hR.inc _ (Nat.le_refl _) q hq
    rw [hh, hR.pre q hq c hj]; simp
  · exact kerFill_off (by omega) _ (notin_getD hm)
theorem head_zero {p : Int} {n l : Nat} {f : Nat → Nat → Int} {hs : List Nat} (hR : Red n l f hs) {v : Nat → Int} (hv : Ker p n l f v) {k : Nat} (hk : k < hs.length) (hz : ∀ j, hs.getD k 0 < j → v j = 0) : p ∣ v (hs.getD k 0) := by
  have h := hv k (by have := hR.le; omega)
  rw [sigN_one (hR.lt k hk) (fun j hj hne => ?_), hR.one k hk k (by have := hR.le; omega), if_pos rfl, Int.one_mul] at h
  · exact h
  · by_cases h2 : j < hs.getD k 0
    · rw [hR.pre k hk j h2]; simp
    · rw [hz j (by omega)]; simp
theorem sorted_ext : ∀ (a b : List Nat), a.Pairwise (· < ·) → b.Pairwise (· < ·) → (∀ x, x ∈ a ↔ x ∈ b) → a = b
  | [], [], _, _, _ => rfl
  | [], y :: b, _, _, h => absurd ((h y).2 (by simp)) (by simp)
  | x :: a, [], _, _, h => absurd ((h x).1 (by simp)) (by simp)
  | x :: a, y :: b, ha, hb, h => by
    obtain ⟨ha1, ha2⟩ := List.pairwise_cons.1 ha
    obtain ⟨hb1, hb2⟩ := List.pairwise_cons.1 hb
    have hxy : x = y := by
      have h1 := (h x).1 (by simp)
      have h2 := (h y).2 (by simp)
      rcases List.mem_cons.1 h1 with h1 | h1
      · exact h1
      · rcases List.mem_cons.1 h2 with h2 | h2
        · exact h2.symm
        · have := ha1 y h2; have := hb1 x h1; omega
    subst hxy
    rw [sorted_ext a b ha2 hb2 (fun z => ⟨fun hz => by
      rcases List.mem_cons.1 ((h z).1 (List.mem_cons_of_mem _ hz)) with e | e
      · have := ha1 z hz; omega
      · exact e, fun hz => by
      rcases List.mem_cons.1 ((h z).2 (List.mem_cons_of_mem _ hz)) with e | e
      · have := hb1 z hz; omega
      · exact e⟩)]
theorem Red.sorted {n c : Nat} {f : Nat → Nat → Int} {hs : List Nat} (hR : Red n c f hs) : hs.Pairwise (· < ·) := by
  rw [List.pairwise_iff_getElem]
  intro i j hi hj hij
  have := hR.inc i j hij hj
  simpa [List.getD_eq_getElem?_getD, List.getElem?_eq_getElem hi, List.getElem?_eq_getElem hj] using this
theorem Red.bound {n c : Nat} {f : Nat → Nat → Int} {hs : List Nat} (hR : Red n c f hs) : ∀ x ∈ hs, x < c := fun x hx => by
  obtain ⟨q, hq, rfl⟩ := mem_getD hx; exact hR.lt q hq
/-- if the rows are fewer than the columns, some column begins no row -/
theorem free_exists {n l : Nat} {f : Nat → Nat → Int} {hs : List Nat} (hR : Red n l f hs) (h : hs.length < l) : ∃ c, c < l ∧ c ∉ hs := by
  refine Classical.byContradiction fun hno => ?_
  have hall : ∀ c, c < l → c ∈ hs := fun c hc => Classical.byContradiction fun hm => hno ⟨c, hc, hm⟩
  have := sorted_ext hs (List.range l) hR.sorted List.pairwise_lt_range (fun x => ⟨fun hx => List.mem_range.2 (hR.bound x hx), fun hx => hall x (List.mem_range.1 hx)⟩)
  rw [this] at h
  simp at h
theorem mat_ext {l : Nat} {F F' : List (List Int)} (hl : F.length = F'.length) (h1 : ∀ row ∈ F, row.length = l) (h2 : ∀ row ∈ F', row.length = l) (h : ∀ i, i < F.length → ∀ j, j < l → at2 F i j = at2 F' i j) : F = F' := by
  refine List.ext_getElem hl fun i hi hi' => ?_
  have e1 := h1 _ (List.getElem_mem hi)
  have e2 := h2 _ (List.getElem_mem hi')
  refine List.ext_getElem (by rw [e1, e2]) fun j hj hj' => ?_
  have := h i hi j (by omega)
  simpa [at2, List.getD_eq_getElem?_getD, List.getElem?_eq_getElem hi, List.getElem?_eq_getElem hi', List.getElem?_eq_getElem hj, List.getElem?_eq_getElem hj'] using this
/-- the form is told by what is taken to 0 -/
theorem form_unique {p : Int} (hp : primeB p = true) {l : Nat} {M M' : List (List Int)} (h : VM p l M) (h' : VM p l M') (hn : M.length = M'.length) (hk : ∀ v, Ker p M.length l (at2 M) v ↔ Ker p M.length l (at2 M') v) : elim p M l = elim p M' l := by
  have hpb := prime_ge hp
  have hR := elim_red hp h l (Nat.le_refl _)
  have hR' := elim_red hp h' l (Nat.le_refl _)
  have hE := fun v => elim_ker hp h v l (Nat.le_refl _)
  have hE' := fun v => elim_ker hp h' v l (Nat.le_refl _)
  rw [← hn] at hR' hE'
  obtain ⟨i1, i2, _, _⟩ := elim_inv hp h l
  obtain ⟨j1, j2, _, _⟩ := elim_inv hp h' l
  have hkk : ∀ v, Ker p M.length l (at2 (elim p M l).1) v ↔ Ker p M.length l (at2 (elim p M' l).1) v := fun v => (hE v).trans ((hk v).trans (hE' v).symm)
  have hsub : ∀ {F F' : List (List Int)} {hs hs' : List Nat}, Red M.length l (at2 F) hs → Red M.length l (at2 F') hs' → (∀ v, Ker p M.length l (at2 F) v → Ker p M.length l (at2 F') v) → ∀ x, x ∈ hs' → x ∈ hs := by
    intro F F' hs hs' hR hR' hkk x hx
    refine Classical.byContradiction fun hno => ?_
    obtain ⟨q, hq, rfl⟩ := mem_getD hx
    have hlt := hR'.lt q hq
    have h1 := head_zero hR' (hkk _ (free_ker hR hlt hno)) hq (fun j hj => free_after hR j hj)
    have h2 : freeV p F hs (hs'.getD q 0) l (hs'.getD q 0) = 1 := kerFill_col hlt _ (Nat.le_refl _) (notin_getD hno)
    rw [h2] at h1
    have := Int.le_of_dvd (by omega) h1
    omega
  have hhs : (elim p M l).2 = (elim p M' l).2 := sorted_ext _ _ hR.sorted hR'.sorted (fun x => ⟨hsub hR' hR (fun v hv => (hkk v).2 hv) x, hsub hR hR' (fun v hv => (hkk v).1 hv) x⟩)
  refine Prod.ext (mat_ext (l := l) (by rw [i1, j1, hn]) (fun row hr => (i2 row hr).1) (fun row hr => (j2 row hr).1) fun i hi j hj => ?_) hhs
  rw [i1] at hi
  rw [← hhs] at hR'
  obtain ⟨hs, hHS⟩ : ∃ hs, (elim p M l).2 = hs := ⟨_, rfl⟩
  rw [hHS] at hR hR'
  by_cases hi2 : i < hs.length
  · by_cases hm : j ∈ hs
    · obtain ⟨q, hq, rfl⟩ := mem_getD hm
      rw [hR.one q hq i hi, hR'.one q hq i hi]
    · have hv := (hkk _).1 (free_ker hR hj hm)
      have h1 := hv i hi
      have hn' := notin_getD hm
      have hcol : freeV p (elim p M l).1 hs j l j = 1 := kerFill_col hj _ (Nat.le_refl _) hn'
      have hh : freeV p (elim p M l).1 hs j l (hs.getD i 0) = -(at2 (elim p M l).1 i j) % p := kerFill_head hR.lt hR.inc _ (Nat.le_refl _) i hi2
      rw [sigN_two (c := j) (d := hs.getD i 0) (fun e => hn' i hi2 e.symm) hj (hR.lt i hi2) (fun k hk' g1 g2 => ?_), hcol, hh, hR'.one i hi2 i hi, if_pos rfl] at h1
      · have h2 := near_mod p (-(at2 (elim p M l).1 i j))
        have h3 := Int.dvd_sub h1 h2
        rw [show at2 (elim p M' l).1 i j * 1 + 1 * (-at2 (elim p M l).1 i j % p) - (-at2 (elim p M l).1 i j % p - -at2 (elim p M l).1 i j) = at2 (elim p M' l).1 i j - at2 (elim p M l).1 i j by omega] at h3
        have a1 := numB_true (i2.at2 (i := i) (j := j) (by omega) hj)
        have a2 := numB_true (j2.at2 (i := i) (j := j) (by omega) hj)
        exact (near_eq h3 a2.2.1 a2.2.2 a1.2.1 a1.2.2).symm
      · by_cases hm2 : k ∈ hs
        · obtain ⟨q, hq, rfl⟩ := mem_getD hm2
          rw [hR'.one q hq i hi, if_neg (fun e => g2 (by rw [e]))]; simp
        · have : freeV p (elim p M l).1 hs j l k = 0 := kerFill_off g1 _ (notin_getD hm2)
          rw [this]; simp
  · rw [hR.low i (by omega) hi j hj, hR'.low i (by omega) hi j hj]
end Go.Proofs.YtecmclaockmgeaaDoor
namespace Go.Proofs.YtecmclaockmgeaaDoor
/-- a matrix as a list -/
def mk2 (p : Int) (n l : Nat) (f : Nat → Nat → Int) : List (List Int) := (List.range n).map fun i => (List.range l).map fun j => f i j % p
theorem mk2_len (p : Int) (n l : Nat) (f : Nat → Nat → Int) : (mk2 p n l f).length = n := by simp [mk2]
theorem mk2_VM {p : Int} (hp : primeB p = true) (n l : Nat) (f : Nat → Nat → Int) : VM p l (mk2 p n l f) := by
  intro row hr
  unfold mk2 at hr
  obtain ⟨i, hi, rfl⟩ := List.mem_map.1 hr
  refine ⟨by simp, fun x hx => ?_⟩
  obtain ⟨j, hj, rfl⟩ := List.mem_map.1 hx
  exact numB_emod hp _
theorem mk2_at {p : Int} {n l : Nat} {f : Nat → Nat → Int} {i j : Nat} (hi : i < n) (hj : j < l) : at2 (mk2 p n l f) i j = f i j % p := by
  unfold at2 mk2
  rw [getQ, List.getElem?_map, List.getElem?_range hi]
  show ((List.range l).map _).getD j 0 = _
  rw [List.getD_eq_getElem?_getD, List.getElem?_map, List.getElem?_range hj]; rfl
/-- fewer sums than columns: some numbers, not all 0, are taken to 0 -/
theorem pigeon {p : Int} (hp : primeB p = true) {r s : Nat} (h : r < s) (f : Nat → Nat → Int) : ∃ v : Nat → Int, (∃ c, c < s ∧ v c = 1) ∧ ∀ k, k < r → p ∣ sigN s (fun q => f k q * v q) := by
  have hV := mk2_VM hp r s f
  have hR := elim_red hp hV s (Nat.le_refl _)
  rw [mk2_len] at hR
  obtain ⟨c, hc, hm⟩ := free_exists hR (by have := hR.le; omega)
  have hk := free_ker (p := p) hR hc hm
  have hk2 := (elim_ker hp hV _ s (Nat.le_refl _)).1 (by rw [mk2_len]; exact hk)
  refine ⟨freeV p (elim p (mk2 p r s f) s).1 (elim p (mk2 p r s f) s).2 c s, ⟨c, hc, kerFill_col hc _ (Nat.le_refl _) (notin_getD hm)⟩, fun k hk' => ?_⟩
  have := hk2 k (by rw [mk2_len]; exact hk')
  refine (near_move (sigN_near fun q hq => ?_)).1 this
  rw [mk2_at hk' hq, ← Int.sub_mul]
  exact dvd_mulR (near_mod _ _) _
/-- each matrix is the product of its columns at the heads and its form -/
theorem elim_fac {p : Int} (hp : primeB p = true) {l : Nat} {M : List (List Int)} (h : VM p l M) : ∀ i, i < M.length → ∀ j, j < l → p ∣ at2 M i j - sigN (elim p M l).2.length (fun k => at2 M i ((elim p M l).2.getD k 0) * at2 (elim p M l).1 k j) := by
  intro i hi j hj
  have hR := elim_red hp h l (Nat.le_refl _)
  have hE := fun v => elim_ker hp h v l (Nat.le_refl _)
  obtain ⟨F, hF⟩ : ∃ F, (elim p M l).1 = F := ⟨_, rfl⟩
  obtain ⟨hs, hHS⟩ : ∃ hs, (elim p M l).2 = hs := ⟨_, rfl⟩
  rw [hF, hHS] at hR
  rw [hF] at hE
  rw [hF, hHS]
  by_cases hm : j ∈ hs
  · obtain ⟨q, hq, rfl⟩ := mem_getD hm
    have hle := hR.le
    rw [sigN_one hq (fun k hk hne => by rw [hR.one q hq k (by omega), if_neg hne]; simp), hR.one q hq q (by omega), if_pos rfl, Int.mul_one, Int.sub_self]
    exact Int.dvd_zero p
  · have hk := (hE _).1 (free_ker hR hj hm) i hi
    have hn := notin_getD hm
    have hcol : freeV p F hs j l j = 1 := kerFill_col hj _ (Nat.le_refl _) hn
    rw [sigN_plus hj, sigN_heads (fun k => hs.getD k 0) (m := hs.length) hR.lt hR.inc (fun k _ hne => ?_)] at hk
    · rw [hcol, Int.mul_one] at hk
      rw [sigN_congr (n := hs.length) (g := fun k => at2 M i (hs.getD k 0) * (-(at2 F k j) % p)) (fun k hk' => by
        rw [if_neg (hn k hk')]
        have : freeV p F hs j l (hs.getD k 0) = -(at2 F k j) % p := kerFill_head hR.lt hR.inc _ (Nat.le_refl _) k hk'
        rw [this])] at hk
      have h2 : p ∣ sigN hs.length (fun k => at2 M i (hs.getD k 0) * (-(at2 F k j) % p)) - (-1) * sigN hs.length (fun k => at2 M i (hs.getD k 0) * at2 F k j) := by
        rw [← sigN_mul]
        refine sigN_near fun k _ => ?_
        obtain ⟨x, hx⟩ : ∃ x, at2 M i (hs.getD k 0) = x := ⟨_, rfl⟩
        rw [hx, show x * (-at2 F k j % p) - -1 * (x * at2 F k j) = x * (-at2 F k j % p - -at2 F k j) by grind]
        exact dvd_mulL (near_mod _ _) _
      have h3 := Int.dvd_sub hk h2
      obtain ⟨S, hS⟩ : ∃ S, sigN hs.length (fun k => at2 M i (hs.getD k 0) * at2 F k j) = S := ⟨_, rfl⟩
      rw [hS] at h3 ⊢
      obtain ⟨T, hT⟩ : ∃ T, sigN hs.length (fun k => at2 M i (hs.getD k 0) * (-(at2 F k j) % p)) = T := ⟨_, rfl⟩
      rw [hT] at h3
      rwa [show at2 M i j + T - (T - -1 * S) = at2 M i j - S by omega] at h3
    · by_cases e : k = j
      · simp [e]
      · simp only [if_neg e]
        have : freeV p F hs j l k = 0 := kerFill_off e _ hne
        rw [this]; simp
/-- a product with so many numbers between -/
def Fac (p : Int) (n l r : Nat) (f : Nat → Nat → Int) : Prop := ∃ X Y : Nat → Nat → Int, ∀ i, i < n → ∀ j, j < l → p ∣ f i j - sigN r (fun k => X i k * Y k j)
theorem Fac.elim {p : Int} (hp : primeB p = true) {l : Nat} {M : List (List Int)} (h : VM p l M) : Fac p M.length l (elim p M l).2.length (at2 M) := ⟨_, _, elim_fac hp h⟩
theorem Fac.congr {p : Int} {n l r : Nat} {f g : Nat → Nat → Int} (h : Fac p n l r f) (hg : ∀ i, i < n → ∀ j, j < l → p ∣ g i j - f i j) : Fac p n l r g := by
  obtain ⟨X, Y, h⟩ := h
  exact ⟨X, Y, fun i hi j hj => near_trans (hg i hi j hj) (h i hi j hj)⟩
theorem Fac.turn {p : Int} {n l r : Nat} {f : Nat → Nat → Int} (h : Fac p n l r f) : Fac p l n r (fun i j => f j i) := by
  obtain ⟨X, Y, h⟩ := h
  refine ⟨fun i k => Y k i, fun k j => X j k, fun i hi j hj => ?_⟩
  rw [sigN_congr (g := fun k => X j k * Y k i) (fun k _ => Int.mul_comm _ _)]
  exact h j hj i hi
theorem Fac.left {p : Int} {n l r m : Nat} {f g : Nat → Nat → Int} (h : Fac p n m r f) : Fac p n l r (fun i j => sigN m (fun k => f i k * g k j)) := by
  obtain ⟨X, Y, h⟩ := h
  refine ⟨X, fun q j => sigN m (fun k => Y q k * g k j), fun i hi j _ => ?_⟩
  have e : sigN r (fun q => X i q * sigN m (fun k => Y q k * g k j)) = sigN m (fun k => sigN r (fun q => X i q * Y q k) * g k j) := by
    rw [sigN_congr (g := fun q => sigN m (fun k => X i q * Y q k * g k j)) (fun q _ => by rw [← sigN_mul]; exact sigN_congr fun k _ => (Int.mul_assoc _ _ _).symm), sigN_swap]
    exact sigN_congr fun k _ => sigN_mulr _ _ _
  rw [e]
  refine sigN_near fun k hk => ?_
  rw [← Int.sub_mul]
  exact dvd_mulR (h i hi k hk) _
theorem Fac.right {p : Int} {n l r m : Nat} {f g : Nat → Nat → Int} (h : Fac p m l r g) : Fac p n l r (fun i j => sigN m (fun k => f i k * g k j)) := by
  have h2 := (h.turn.left (l := n) (g := fun k i => f i k)).turn
  refine h2.congr fun i _ j _ => ?_
  rw [sigN_congr (g := fun k => g k j * f i k) (fun k _ => Int.mul_comm _ _), Int.sub_self]
  exact Int.dvd_zero p
/-- as many unit columns as that are not made of fewer -/
theorem unit_le {p : Int} (hp : primeB p = true) {n l r m : Nat} {f : Nat → Nat → Int} (hf : Fac p n l r f) (h : Nat → Nat) (hl : ∀ t, t < m → h t < l) (hm : m ≤ n) (hu : ∀ t, t < m → ∀ s, s < m → f t (h s) = if t = s then 1 else 0) : m ≤ r := by
  refine Classical.byContradiction fun hno => ?_
  have hpb := prime_ge hp
  obtain ⟨X, Y, hf⟩ := hf
  obtain ⟨v, ⟨c, hc, hv1⟩, hv⟩ := pigeon hp (r := r) (s := m) (by omega) (fun k t => X t k)
  have h1 : sigN m (fun t => v t * f t (h c)) = 1 := by
    rw [sigN_one hc (fun t ht hne => by rw [hu t ht c hc, if_neg hne]; simp), hu c hc c hc, if_pos rfl, hv1]; rfl
  have h2 : p ∣ sigN m (fun t => v t * f t (h c)) - sigN m (fun t => v t * sigN r (fun k => X t k * Y k (h c))) := by
    refine sigN_near fun t ht => ?_
    rw [← Int.mul_sub]
    exact dvd_mulL (hf t (by omega) _ (hl c hc)) _
  have h3 : sigN m (fun t => v t * sigN r (fun k => X t k * Y k (h c))) = sigN r (fun k => sigN m (fun t => X t k * v t) * Y k (h c)) := by
    rw [sigN_congr (g := fun t => sigN r (fun k => X t k * v t * Y k (h c))) (fun t _ => by rw [← sigN_mul]; exact sigN_congr fun k _ => by grind), sigN_swap]
    exact sigN_congr fun k _ => sigN_mulr _ _ _
  rw [h1, h3] at h2
  have h4 := (near_move h2).2 (sigN_dvd fun k hk => dvd_mulR (hv k hk) _)
  have := Int.le_of_dvd (by omega) h4
  omega
/-- the rank is at most each such number -/
theorem rank_le {p : Int} (hp : primeB p = true) {l : Nat} {M : List (List Int)} (h : VM p l M) {r : Nat} (hf : Fac p M.length l r (at2 M)) : (elim p M l).2.length ≤ r := by
  refine Classical.byContradiction fun hno => ?_
  have hpb := prime_ge hp
  have hR := elim_red hp h l (Nat.le_refl _)
  have hE := fun v => elim_ker hp h v l (Nat.le_refl _)
  obtain ⟨F, hF⟩ : ∃ F, (elim p M l).1 = F := ⟨_, rfl⟩
  obtain ⟨hs, hHS⟩ : ∃ hs, (elim p M l).2 = hs := ⟨_, rfl⟩
  rw [hF, hHS] at hR
  rw [hF] at hE
  rw [hHS] at hno
  have hle := hR.le
  obtain ⟨X, Y, hf⟩ := hf
  obtain ⟨v, ⟨c, hc, hv1⟩, hv⟩ := pigeon hp (r := r) (s := hs.length) (by omega) (fun k q => Y k (hs.getD q 0))
  have hinj : ∀ a b, a < hs.length → b < hs.length → hs.getD a 0 = hs.getD b 0 → a = b := fun a b ha hb e => by
    rcases Nat.lt_trichotomy a b with h1 | h1 | h1
    · have := hR.inc a b h1 hb; omega
    · exact h1
    · have := hR.inc b a h1 ha; omega
  obtain ⟨u, hu⟩ : ∃ u : Nat → Int, u = fun j => sigN hs.length (fun q => if hs.getD q 0 = j then v q else 0) := ⟨_, rfl⟩
  have hu1 : ∀ q, q < hs.length → u (hs.getD q 0) = v q := fun q hq => by
    rw [hu]
    show sigN hs.length (fun q' => if hs.getD q' 0 = hs.getD q 0 then v q' else 0) = _
    rw [sigN_one hq (fun k hk hne => if_neg (fun e => hne (hinj k q hk hq e))), if_pos rfl]
  have hu0 : ∀ j, (∀ q, q < hs.length → hs.getD q 0 ≠ j) → u j = 0 := fun j hj => by
    rw [hu]
    exact sigN_zero fun q hq => if_neg (hj q hq)
  have hsum : ∀ g : Nat → Int, sigN l (fun j => g j * u j) = sigN hs.length (fun q => g (hs.getD q 0) * v q) := fun g => by
    rw [sigN_heads (fun k => hs.getD k 0) (m := hs.length) hR.lt hR.inc (fun j _ hne => by rw [hu0 j hne]; simp)]
    exact sigN_congr fun q hq => by rw [hu1 q hq]
  have hker : Ker p M.length l (at2 M) u := fun i hi => by
    have h2 : p ∣ sigN l (fun j => at2 M i j * u j) - sigN l (fun j => sigN r (fun k => X i k * Y k j) * u j) := by
      refine sigN_near fun j hj => ?_
      rw [← Int.sub_mul]
      exact dvd_mulR (hf i hi j hj) _
    refine (near_move h2).2 ?_
    rw [sigN_congr (g := fun j => sigN r (fun k => X i k * (Y k j * u j))) (fun j _ => by rw [← sigN_mulr]; exact sigN_congr fun k _ => Int.mul_assoc _ _ _), sigN_swap]
    refine sigN_dvd fun k hk => ?_
    rw [sigN_mul, hsum]
    exact dvd_mulL (hv k hk) _
  have h5 := (hE u).2 hker c (by omega)
  rw [hsum, sigN_one hc (fun q hq hne => by rw [hR.one q hq c (by omega), if_neg (fun e => hne e.symm)]; simp), hR.one c hc c (by omega), if_pos rfl, hv1] at h5
  have := Int.le_of_dvd (by omega) h5
  omega
end Go.Proofs.YtecmclaockmgeaaDoor
namespace Go.Proofs.YtecmclaockmgeaaDoor
/-- each window is made of the first ones -/
theorem stm_span {p : Int} {T F : List Int} (hl : F.length = T.length) : ∀ i, ∃ X : Nat → Int, ∀ j, p ∣ stm p T F (i + j) - sigN T.length (fun k => X k * stm p T F (k + j)) := by
  intro i
  induction i using Nat.strongRecOn with
  | ind i ih =>
    by_cases h : i < T.length
    · refine ⟨fun k => if k = i then 1 else 0, fun j => ?_⟩
      rw [sigN_one h (fun k _ hk => by simp [hk])]
      simp
    · have hX : ∃ X : Nat → Nat → Int, ∀ q, q < T.length → ∀ j, p ∣ stm p T F (i - 1 - q + j) - sigN T.length (fun k => X q k * stm p T F (k + j)) := by
        refine ⟨fun q => if hq : q < T.length then Classical.choose (ih (i - 1 - q) (by omega)) else fun _ => 0, fun q hq => ?_⟩
        simp only [dif_pos hq]
        exact Classical.choose_spec (ih (i - 1 - q) (by omega))
      obtain ⟨X, hX⟩ := hX
      refine ⟨fun k => sigN T.length (fun q => co T q * X q k), fun j => ?_⟩
      rw [stm_next p T F hl (by omega)]
      refine near_trans (near_mod _ _) ?_
      have e : sigN T.length (fun k => sigN T.length (fun q => co T q * X q k) * stm p T F (k + j)) = sigN T.length (fun q => co T q * sigN T.length (fun k => X q k * stm p T F (k + j))) := by
        rw [sigN_congr (g := fun k => sigN T.length (fun q => co T q * (X q k * stm p T F (k + j)))) (fun k _ => by rw [← sigN_mulr]; exact sigN_congr fun q _ => Int.mul_assoc _ _ _), sigN_swap]
        exact sigN_congr fun q _ => sigN_mul _ _ _
      rw [e]
      refine sigN_near fun q hq => ?_
      rw [← Int.mul_sub, show i + j - 1 - q = i - 1 - q + j by omega]
      exact dvd_mulL (hX q hq j) _
theorem rank_span {p : Int} (hp : primeB p = true) {T F : List Int} (hl : F.length = T.length) {R : Nat} {M : List (List Int)} (hM : VM p R M) (hn : M.length = R) (ha : ∀ i, i < R → ∀ j, j < R → at2 M i j = stm p T F (i + j)) : (elim p M R).2.length ≤ T.length := by
  refine rank_le hp hM ?_
  refine ⟨fun i => Classical.choose (stm_span (p := p) hl i), fun k j => stm p T F (k + j), fun i hi j hj => ?_⟩
  rw [ha i (by omega) j hj]
  exact Classical.choose_spec (stm_span (p := p) hl i) j
/-- what a sum of d numbers kills has a recurrence of less order -/
theorem kill_rec {p : Int} {T F : List Int} (h : recB p T F = true) (v : Nat → Int) (c : Nat) (hv : ¬ p ∣ v c) : ∀ d, d ≤ T.length → c < d → (∀ i, p ∣ sigN d (fun q => v q * stm p T F (i + q))) → ∃ T' F', recB p T' F' = true ∧ T'.length < d ∧ ∀ k, stm p T' F' k = stm p T F k
  | 0, _, hc, _ => absurd hc (by omega)
  | d + 1, hd, hc, hk => by
    obtain ⟨hp, h6, hl, hT, hF⟩ := recB_true h
    have hpb := prime_ge hp
    by_cases hz : p ∣ v d
    · have hcd : c ≠ d := fun e => hv (e ▸ hz)
      obtain ⟨T', F', h1, h2, h3⟩ := kill_rec h v c hv d (by omega) (by omega) (fun i => by
        have e : sigN (d + 1) (fun q => v q * stm p T F (i + q)) = sigN d (fun q => v q * stm p T F (i + q)) + v d * stm p T F (i + d) := rfl
        have := Int.dvd_sub (hk i) (dvd_mulR hz (stm p T F (i + d)))
        rwa [e, Int.add_sub_cancel] at this)
      exact ⟨T', F', h1, by omega, h3⟩
    · obtain ⟨b, hb⟩ : ∃ b, invM p (v d % p) = b := ⟨_, rfl⟩
      have hbv : p ∣ v d * b - 1 := by
        have h0 : v d % p ≠ 0 := fun e => hz (Int.dvd_of_emod_eq_zero e)
        have h1 := inv_ok hp (Int.emod_nonneg (v d) (by omega)) (Int.emod_lt_of_pos (v d) (by omega)) h0
        rw [hb] at h1
        have h2 : p ∣ v d % p * b - 1 := by have := near_mod p (v d % p * b); rw [h1] at this; exact near_symm this
        have h3 := Int.dvd_sub h2 (dvd_mulR (near_mod p (v d)) b)
        rwa [show v d % p * b - 1 - (v d % p - v d) * b = v d * b - 1 by grind] at h3
      have hTg : ∀ q, q < d → co ((List.range d).map fun q => -(v (d - 1 - q)) * b % p) q = -(v (d - 1 - q)) * b % p := fun q hq => by
        unfold co
        rw [List.getD_eq_getElem?_getD, List.getElem?_map, List.getElem?_range hq]; rfl
      refine ⟨(List.range d).map fun q => -(v (d - 1 - q)) * b % p, trm p T F d, recB_mk hp (by simp; omega) (by rw [trm_len]; simp) (fun x hx => ?_) (trm_num h d), by simp, fun k => ?_⟩
      · obtain ⟨q, _, rfl⟩ := List.mem_map.1 hx
        exact numB_emod hp _
      · have hTl : ((List.range d).map fun q => -(v (d - 1 - q)) * b % p).length = d := by simp
        generalize hTT : ((List.range d).map fun q => -(v (d - 1 - q)) * b % p) = TT at hTg hTl ⊢
        induction k using Nat.strongRecOn with
        | ind k ih =>
          by_cases hkd : k < d
          · rw [stm_low p TT _ (by rw [trm_len]; exact hkd)]
            exact co_trm p T F hkd
          · rw [stm_next p TT _ (by rw [trm_len, hTl]) (by rw [trm_len]; omega), hTl]
            have hs := numB_true (stm_num h k)
            refine near_eq (p := p) (near_trans (near_mod _ _) ?_) (Int.emod_nonneg _ (by omega)) (Int.emod_lt_of_pos _ (by omega)) hs.2.1 hs.2.2
            rw [sigN_congr (g := fun q => (-(v (d - 1 - q)) * b % p) * stm p T F (k - 1 - q)) (fun q hq => by rw [hTg q hq, ih (k - 1 - q) (by omega)])]
            have e1 : p ∣ sigN d (fun q => (-(v (d - 1 - q)) * b % p) * stm p T F (k - 1 - q)) - sigN d (fun q => (fun j => -(v j) * b * stm p T F (k - d + j)) (d - 1 - q)) := by
              refine sigN_near fun q hq => ?_
              show p ∣ _ - -(v (d - 1 - q)) * b * stm p T F (k - d + (d - 1 - q))
              rw [show k - d + (d - 1 - q) = k - 1 - q by omega, ← Int.sub_mul]
              exact dvd_mulR (near_mod _ _) _
            refine near_trans e1 ?_
            rw [sigN_rev (fun j => -(v j) * b * stm p T F (k - d + j)) d]
            have h5 := hk (k - d)
            have e : sigN (d + 1) (fun q => v q * stm p T F (k - d + q)) = sigN d (fun q => v q * stm p T F (k - d + q)) + v d * stm p T F (k - d + d) := rfl
            rw [e, show k - d + d = k by omega] at h5
            have e2 : sigN d (fun j => -(v j) * b * stm p T F (k - d + j)) = -b * sigN d (fun q => v q * stm p T F (k - d + q)) := by
              rw [← sigN_mul]
              exact sigN_congr fun q _ => by grind
            rw [e2]
            generalize sigN d (fun q => v q * stm p T F (k - d + q)) = S at h5
            generalize stm p T F k = s at h5
            have h6 := Int.dvd_sub (dvd_mulR hbv s) (dvd_mulR h5 b)
            rwa [show (v d * b - 1) * s - (S + v d * s) * b = -b * S - s by grind] at h6
theorem rank_least {p : Int} {T F : List Int} (h : recB p T F = true) {R d : Nat} (hR : T.length ≤ R) (hd : d ≤ T.length) (least : ∀ T' F', recB p T' F' = true → (∀ k, stm p T' F' k = stm p T F k) → d ≤ T'.length) {M : List (List Int)} (hM : VM p R M) (hn : M.length = R) (ha : ∀ i, i < R → ∀ j, j < R → at2 M i j = stm p T F (i + j)) : d ≤ (elim p M R).2.length := by
  refine Classical.byContradiction fun hno => ?_
  obtain ⟨hp, h6, hl, hT, hF⟩ := recB_true h
  have hpb := prime_ge hp
  obtain ⟨X, Y, hf⟩ := Fac.elim hp hM
  obtain ⟨v, ⟨c, hc, hv1⟩, hv⟩ := pigeon hp (r := (elim p M R).2.length) (s := d) (by omega) (fun k q => Y k q)
  have h0 : ∀ i, i < R → p ∣ sigN d (fun q => v q * stm p T F (i + q)) := fun i hi => by
    have h2 : p ∣ sigN d (fun q => v q * stm p T F (i + q)) - sigN d (fun q => v q * sigN (elim p M R).2.length (fun k => X i k * Y k q)) := by
      refine sigN_near fun q hq => ?_
      rw [← Int.mul_sub, ← ha i hi q (by omega)]
      exact dvd_mulL (hf i (by omega) q (by omega)) _
    have h3 : sigN d (fun q => v q * sigN (elim p M R).2.length (fun k => X i k * Y k q)) = sigN (elim p M R).2.length (fun k => X i k * sigN d (fun q => Y k q * v q)) := by
      rw [sigN_congr (g := fun q => sigN (elim p M R).2.length (fun k => X i k * (Y k q * v q))) (fun q _ => by rw [← sigN_mul]; exact sigN_congr fun k _ => by grind), sigN_swap]
      exact sigN_congr fun k _ => sigN_mul _ _ _
    rw [h3] at h2
    exact (near_move h2).2 (sigN_dvd fun k hk => dvd_mulL (hv k hk) _)
  have hK : kills p (co (recP p T)) T.length (fun i => sigN d (fun q => v q * stm p T F (i + q))) := fun k => by
    have e : app (co (recP p T)) (fun i => sigN d (fun q => v q * stm p T F (i + q))) (T.length + 1) k = sigN d (fun q => v q * app (co (recP p T)) (stm p T F) (T.length + 1) (k + q)) := by
      unfold app
      rw [sigN_congr (g := fun j => sigN d (fun q => v q * (co (recP p T) j * stm p T F (k + q + j)))) (fun j _ => by rw [← sigN_mul]; exact sigN_congr fun q _ => by rw [show k + j + q = k + q + j by omega]; grind), sigN_swap]
      exact sigN_congr fun q _ => sigN_mul _ _ _
    rw [e]
    exact sigN_dvd fun q _ => dvd_mulL (recP_kills p T F hl (k + q)) _
  have hk := kills_zero (by rw [co_recP_top]; simp) hK (fun j hj => h0 j (by omega))
  obtain ⟨T', F', h1, h2, h3⟩ := kill_rec h v c (fun e => by rw [hv1] at e; have := Int.le_of_dvd (by omega) e; omega) d hd hc hk
  have := least T' F' h1 h3
  omega
end Go.Proofs.YtecmclaockmgeaaDoor
namespace Go.Proofs.YtecmclaockmgeaaDoor
theorem inv_nd {p x : Int} (hp : primeB p = true) (h : ¬ p ∣ x) : ∃ b, p ∣ x * b - 1 := by
  have hpb := prime_ge hp
  have h0 : x % p ≠ 0 := fun e => h (Int.dvd_of_emod_eq_zero e)
  have h1 := inv_ok hp (Int.emod_nonneg x (by omega)) (Int.emod_lt_of_pos x (by omega)) h0
  refine ⟨invM p (x % p), ?_⟩
  have h2 : p ∣ x % p * invM p (x % p) - 1 := by have := near_mod p (x % p * invM p (x % p)); rw [h1] at this; exact near_symm this
  have h3 := Int.dvd_sub h2 (dvd_mulR (near_mod p x) (invM p (x % p)))
  rwa [show x % p * invM p (x % p) - 1 - (x % p - x) * invM p (x % p) = x * invM p (x % p) - 1 by grind] at h3
theorem cv_first (F G : Nat → Int) (k : Nat) : cv F G k = F 0 * G k + sigN k (fun j => F (j + 1) * G (k - 1 - j)) := by
  show sigN (k + 1) (fun j => F j * G (k - j)) = _
  rw [sigN_shift]
  congr 1
  exact sigN_congr fun j _ => by rw [show k - (j + 1) = k - 1 - j by omega]
theorem cv_cancel {p : Int} (hp : primeB p = true) {G D : Nat → Int} (h0 : ¬ p ∣ G 0) (h : ∀ k, p ∣ cv G D k) : ∀ k, p ∣ D k := by
  obtain ⟨b, hb⟩ := inv_nd hp h0
  intro k
  induction k using Nat.strongRecOn with
  | ind k ih =>
    have h1 := h k
    rw [cv_first] at h1
    have h2 : p ∣ sigN k (fun j => G (j + 1) * D (k - 1 - j)) := sigN_dvd fun j hj => dvd_mulL (ih (k - 1 - j) (by omega)) _
    have h3 := Int.dvd_sub h1 h2
    rw [Int.add_sub_cancel] at h3
    have h4 := Int.dvd_sub (dvd_mulR h3 b) (dvd_mulR hb (D k))
    rwa [show G 0 * D k * b - (G 0 * b - 1) * D k = D k by grind] at h4
/-- the series s is the fraction U over L -/
def FS (p : Int) (U L s : Nat → Int) : Prop := ∀ k, p ∣ cv L s k - U k
theorem cv_subr (F G H : Nat → Int) (k : Nat) : cv H (fun j => F j - G j) k = cv H F k - cv H G k := by
  unfold cv
  rw [← sigN_sub]
  exact sigN_congr fun j _ => Int.mul_sub _ _ _
theorem near_cvl {p : Int} {F F' : Nat → Int} (G : Nat → Int) (h : ∀ k, p ∣ F k - F' k) (k : Nat) : p ∣ cv F G k - cv F' G k := cv_near k (fun j _ => h j) (fun j _ => by rw [Int.sub_self]; exact Int.dvd_zero p)
theorem near_cvr {p : Int} {G G' : Nat → Int} (F : Nat → Int) (h : ∀ k, p ∣ G k - G' k) (k : Nat) : p ∣ cv F G k - cv F G' k := cv_near k (fun j _ => by rw [Int.sub_self]; exact Int.dvd_zero p) (fun j _ => h j)
/-- both quotients by the greatest divisor -/
theorem quo_law {p : Int} {up low : List Int} (hu : polB p up = true) (hl : polB p low = true) (h0 : low.length ≠ 0) (hz : co low 0 ≠ 0) :
    (∀ k, p ∣ co low k - cv (co (gcdL p up low)) (co (quoL p low (gcdL p up low))) k) ∧ (∀ k, p ∣ co up k - cv (co (gcdL p up low)) (co (quoL p up (gcdL p up low))) k) ∧ ¬ p ∣ co (gcdL p up low) 0 := by
  obtain ⟨g1, g2, g3⟩ := gcd_law hu hl
  have g4 := gcd_pos hu hl h0
  obtain ⟨_, _, _, _, q5⟩ := div_law (polB_ser hl) g1 g4
  obtain ⟨_, _, _, _, u5⟩ := div_law (polB_ser hu) g1 g4
  have hl2 : ∀ k, p ∣ co low k - cv (co (gcdL p up low)) (co (quoL p low (gcdL p up low))) k := fun k => by
    have := q5 k
    rwa [rem_nil hl g1 g4 g3, co_far (f := []) (by simp), Int.add_zero] at this
  have hu2 : ∀ k, p ∣ co up k - cv (co (gcdL p up low)) (co (quoL p up (gcdL p up low))) k := fun k => by
    have := u5 k
    rwa [rem_nil hu g1 g4 g2, co_far (f := []) (by simp), Int.add_zero] at this
  refine ⟨hl2, hu2, fun e => ?_⟩
  have h1 := hl2 0
  rw [cv_at0] at h1
  have h2 := (near_move h1).2 (dvd_mulR e _)
  have hb := co_bd (polB_ser hl) 0
  exact hz (near_zero h2 hb.1 hb.2)
theorem quo_fs {p : Int} {up low : List Int} (hu : polB p up = true) (hl : polB p low = true) (h0 : low.length ≠ 0) (hz : co low 0 ≠ 0) {s : Nat → Int} (h : FS p (co up) (co low) s) : FS p (co (quoL p up (gcdL p up low))) (co (quoL p low (gcdL p up low))) s := by
  obtain ⟨hp, _, _⟩ := serB_true (polB_ser hl)
  obtain ⟨l1, u1, g0⟩ := quo_law hu hl h0 hz
  refine cv_cancel hp g0 fun k => ?_
  rw [cv_subr, ← cv_assoc]
  have h1 := near_cvl s l1 k
  have h2 := h k
  have h3 := u1 k
  have := Int.dvd_add (Int.dvd_sub h2 h1) h3
  rwa [show cv (co low) s k - co up k - (cv (co low) s k - cv (cv (co (gcdL p up low)) (co (quoL p low (gcdL p up low)))) s k) + (co up k - cv (co (gcdL p up low)) (co (quoL p up (gcdL p up low))) k) = cv (cv (co (gcdL p up low)) (co (quoL p low (gcdL p up low)))) s k - cv (co (gcdL p up low)) (co (quoL p up (gcdL p up low))) k by omega] at this
theorem least_fs {p : Int} {up low : List Int} (hu : polB p up = true) (hl : polB p low = true) (h0 : low.length ≠ 0) (hz : co low 0 ≠ 0) {s : Nat → Int} (h : FS p (co up) (co low) s) : FS p (co (leastL p up low).1) (co (leastL p up low).2) s := by
  have h1 := quo_fs hu hl h0 hz h
  intro k
  unfold leastL
  generalize invM p (co (quoL p low (gcdL p up low)) 0) = c
  show p ∣ cv (co (scaleL p c (quoL p low (gcdL p up low)))) s k - co (scaleL p c (quoL p up (gcdL p up low))) k
  have h2 : p ∣ cv (co (scaleL p c (quoL p low (gcdL p up low)))) s k - cv (fun j => c * co (quoL p low (gcdL p up low)) j) s k := near_cvl s (fun j => by rw [co_scale]; exact near_mod _ _) k
  rw [cv_mull] at h2
  have h3 := dvd_mulL (h1 k) c
  have h4 : p ∣ co (scaleL p c (quoL p up (gcdL p up low))) k - c * co (quoL p up (gcdL p up low)) k := by rw [co_scale]; exact near_mod _ _
  have := Int.dvd_sub (Int.dvd_add h2 h3) h4
  rwa [Int.mul_sub, show cv (co (scaleL p c (quoL p low (gcdL p up low)))) s k - c * cv (co (quoL p low (gcdL p up low))) s k + (c * cv (co (quoL p low (gcdL p up low))) s k - c * co (quoL p up (gcdL p up low)) k) - (co (scaleL p c (quoL p up (gcdL p up low))) k - c * co (quoL p up (gcdL p up low)) k) = cv (co (scaleL p c (quoL p low (gcdL p up low)))) s k - co (scaleL p c (quoL p up (gcdL p up low))) k by omega] at this
theorem deg_le {p : Int} {Q L : List Int} (hQ : polB p Q = true) {W : Nat → Int} {N : Nat} (hW : ∀ k, N ≤ k → W k = 0) (hne : ∃ t, ¬ p ∣ W t) (h : ∀ k, p ∣ co L k - cv (co Q) W k) : Q.length ≤ L.length := by
  refine Classical.byContradiction fun hno => ?_
  obtain ⟨t, ht⟩ := hne
  exact ht (mult_zero hQ (by omega) hW (S := co L) (fun k hk => by rw [co_far (by omega)]; exact Int.dvd_zero p) h t)
/-- no fraction of that series is shorter than the one in lowest terms -/
theorem least_short {p : Int} {up low : List Int} (hu : polB p up = true) (hl : polB p low = true) (h0 : low.length ≠ 0) (hz : co low 0 ≠ 0) {s : Nat → Int} (h : FS p (co up) (co low) s) {U L : List Int} (h' : FS p (co U) (co L) s) (hL0 : ¬ p ∣ co L 0) : (leastL p up low).1.length ≤ U.length ∧ (leastL p up low).2.length ≤ L.length := by
  obtain ⟨hp, _, _⟩ := serB_true (polB_ser hl)
  obtain ⟨l1, u1, g0⟩ := quo_law hu hl h0 hz
  obtain ⟨hQ, _, _, _, hV, _⟩ := quo_pos hu hl h0 hz
  have hf := quo_fs hu hl h0 hz h
  obtain ⟨_, _, _, c4, _, _⟩ := com0_law hu hl
  rw [show (com0 p up low).1 = gcdL p up low from gcdN_com p _ _ _ _ _ _ _] at c4
  have k1 : (leastL p up low).1.length ≤ (quoL p up (gcdL p up low)).length := scale_len _ _ _
  have k2 : (leastL p up low).2.length ≤ (quoL p low (gcdL p up low)).length := scale_len _ _ _
  generalize (leastL p up low).1.length = X at k1 ⊢
  generalize (leastL p up low).2.length = Y at k2 ⊢
  generalize quoL p up (gcdL p up low) = V at *
  generalize quoL p low (gcdL p up low) = Q at *
  generalize gcdL p up low = G at *
  generalize hS : (com0 p up low).2.1 = S at *
  generalize hT : (com0 p up low).2.2 = T at *
  have hone : ∀ k, p ∣ unitF k - (cv (co S) (co V) k + cv (co T) (co Q) k) := by
    refine cv_cancel hp g0 fun k => ?_
    rw [cv_subr, cv_addr, cv_comm (co G) unitF, cv_unit]
    have e1 : p ∣ cv (co S) (co up) k - cv (co G) (cv (co S) (co V)) k := by
      rw [← cv_assoc, show cv (cv (co G) (co S)) (co V) k = cv (co S) (cv (co G) (co V)) k by rw [← cv_assoc]; exact congrFun (congrArg (fun F => cv F (co V)) (funext fun k => cv_comm _ _ k)) k]
      exact near_cvr (co S) u1 k
    have e2 : p ∣ cv (co T) (co low) k - cv (co G) (cv (co T) (co Q)) k := by
      rw [← cv_assoc, show cv (cv (co G) (co T)) (co Q) k = cv (co T) (cv (co G) (co Q)) k by rw [← cv_assoc]; exact congrFun (congrArg (fun F => cv F (co Q)) (funext fun k => cv_comm _ _ k)) k]
      exact near_cvr (co T) l1 k
    have := Int.dvd_add (c4 k) (Int.dvd_add e1 e2)
    rwa [show co G k - (cv (co S) (co up) k + cv (co T) (co low) k) + (cv (co S) (co up) k - cv (co G) (cv (co S) (co V)) k + (cv (co T) (co low) k - cv (co G) (cv (co T) (co Q)) k)) = co G k - (cv (co G) (cv (co S) (co V)) k + cv (co G) (cv (co T) (co Q)) k) by omega] at this
  -- V * L = Q * U
  have hcr : ∀ k, p ∣ cv (co V) (co L) k - cv (co Q) (co U) k := fun k => by
    have e1 := near_cvl (co L) (fun k => near_symm (hf k)) k
    have e2 := near_cvr (co Q) h' k
    have e3 : cv (cv (co Q) s) (co L) k = cv (co Q) (cv (co L) s) k := by
      rw [cv_assoc]; exact congrFun (congrArg (cv (co Q)) (funext fun k => cv_comm _ _ k)) k
    rw [e3] at e1
    exact near_trans e1 e2
  obtain ⟨W, hW⟩ : ∃ W : Nat → Int, W = fun k => cv (co S) (co U) k + cv (co T) (co L) k := ⟨_, rfl⟩
  have hWf : ∀ k, S.length + U.length + T.length + L.length ≤ k → W k = 0 := fun k hk => by
    rw [hW]
    show cv (co S) (co U) k + cv (co T) (co L) k = 0
    rw [cv_far (n := S.length) (m := U.length) (fun k h => co_far h) (fun k h => co_far h) (by omega), cv_far (n := T.length) (m := L.length) (fun k h => co_far h) (fun k h => co_far h) (by omega)]
    rfl
  have sw : ∀ (A B C : Nat → Int) k, cv (cv A B) C k = cv B (cv A C) k := fun A B C k => by
    rw [← cv_assoc]; exact congrFun (congrArg (fun F => cv F C) (funext fun k => cv_comm _ _ k)) k
  have hL : ∀ k, p ∣ co L k - cv (co Q) W k := fun k => by
    have e0 := near_cvl (co L) hone k
    rw [cv_unit, cv_addl, cv_assoc, sw] at e0
    have e1 := near_cvr (co S) hcr k
    have e2 : cv (co S) (cv (co Q) (co U)) k = cv (co Q) (cv (co S) (co U)) k := by rw [← cv_assoc, sw]
    rw [e2] at e1
    rw [hW, cv_addr]
    have := Int.dvd_add e0 e1
    rwa [show co L k - (cv (co S) (cv (co V) (co L)) k + cv (co Q) (cv (co T) (co L)) k) + (cv (co S) (cv (co V) (co L)) k - cv (co Q) (cv (co S) (co U)) k) = co L k - (cv (co Q) (cv (co S) (co U)) k + cv (co Q) (cv (co T) (co L)) k) by omega] at this
  have hU : ∀ k, p ∣ co U k - cv (co V) W k := fun k => by
    have e0 := near_cvl (co U) hone k
    rw [cv_unit, cv_addl, sw, cv_assoc] at e0
    have e1 := near_cvr (co T) hcr k
    have e2 : cv (co T) (cv (co V) (co L)) k = cv (co V) (cv (co T) (co L)) k := by rw [← cv_assoc, sw]
    rw [e2] at e1
    rw [hW, cv_addr]
    have := Int.dvd_sub e0 e1
    rwa [show co U k - (cv (co V) (cv (co S) (co U)) k + cv (co T) (cv (co Q) (co U)) k) - (cv (co V) (cv (co T) (co L)) k - cv (co T) (cv (co Q) (co U)) k) = co U k - (cv (co V) (cv (co S) (co U)) k + cv (co V) (cv (co T) (co L)) k) by omega] at this
  have hne : ∃ t, ¬ p ∣ W t := Classical.byContradiction fun hno => by
    have hz : ∀ t, p ∣ W t := fun t => Classical.byContradiction fun e => hno ⟨t, e⟩
    have h1 := hL 0
    rw [cv_at0] at h1
    exact hL0 ((near_move h1).2 (dvd_mulL (hz 0) _))
  exact ⟨Nat.le_trans k1 (deg_le hV hWf hne hU), Nat.le_trans k2 (deg_le hQ hWf hne hL)⟩
end Go.Proofs.YtecmclaockmgeaaDoor
namespace Go.Proofs.YtecmclaockmgeaaDoor
theorem stm_nat {p : Int} {T F : List Int} (hl : F.length = T.length) {k : Nat} (h : T.length ≤ k) : p ∣ stm p T F k - sigN T.length (fun j => co T j * stm p T F (k - 1 - j)) := by
  rw [stm_next p T F hl (by omega)]; exact near_mod _ _
/-- the fraction of a recurrence -/
theorem rec_fs {p : Int} {T F : List Int} (h : recB p T F = true) : FS p (co (trimL (serT p (lowT p T) F))) (co (trimL (lowT p T))) (stm p T F) := by
  obtain ⟨hp, h6, hl, hT, hF⟩ := recB_true h
  obtain ⟨hlow, hf, _, _, _, _⟩ := fracOf_law h
  have hs : serT p (lowT p T) F = serL p (lowT p T) F := by unfold serT; rw [if_pos ⟨hlow, hf⟩]
  have hlen : (lowT p T).length = T.length + 1 := by simp [lowT]
  have hco : (fun k => co (trimL (lowT p T)) k) = co (lowT p T) := funext (co_trim _)
  intro k
  rw [hs, co_trim, show co (trimL (lowT p T)) = co (lowT p T) from hco]
  by_cases hk : k < T.length
  · unfold serL
    rw [hlen, hl, Nat.min_eq_right (by omega), co_convR p _ _ hk]
    have e : cv (co (lowT p T)) (stm p T F) k = cv (co (lowT p T)) (co F) k := sigN_congr fun j hj => by rw [stm_low p T F (by omega)]
    rw [e]
    exact near_symm (near_mod _ _)
  · rw [co_far (f := serL p (lowT p T) F) (by rw [serL_len]; omega), Int.sub_zero, cv_first]
    have e0 : co (lowT p T) 0 = 1 := rfl
    have e1 : sigN k (fun j => co (lowT p T) (j + 1) * stm p T F (k - 1 - j)) = sigN T.length (fun j => co (lowT p T) (j + 1) * stm p T F (k - 1 - j)) :=
      sigN_trunc (by omega) fun j h1 _ => by rw [co_far (by omega)]; simp
    have e2 : p ∣ sigN T.length (fun j => co (lowT p T) (j + 1) * stm p T F (k - 1 - j)) - sigN T.length (fun j => -1 * (co T j * stm p T F (k - 1 - j))) := by
      refine sigN_near fun j hj => ?_
      have e3 : co (lowT p T) (j + 1) = (p - co T j) % p := by
        show (1 :: T.map fun x => (p - x) % p).getD (j + 1) 0 = _
        unfold co
        rw [List.getD_eq_getElem?_getD, List.getElem?_cons_succ, List.getElem?_map, List.getD_eq_getElem?_getD, List.getElem?_eq_getElem hj]
        rfl
      rw [e3, show (p - co T j) % p * stm p T F (k - 1 - j) - -1 * (co T j * stm p T F (k - 1 - j)) = ((p - co T j) % p - (p - co T j)) * stm p T F (k - 1 - j) + p * stm p T F (k - 1 - j) by grind]
      exact Int.dvd_add (dvd_mulR (near_mod _ _) _) ⟨_, rfl⟩
    rw [sigN_mul] at e2
    have e4 := stm_nat (p := p) hl (k := k) (by omega)
    rw [e0, e1, Int.one_mul]
    have := Int.dvd_add e2 e4
    generalize sigN T.length (fun j => co (lowT p T) (j + 1) * stm p T F (k - 1 - j)) = A at this ⊢
    generalize sigN T.length (fun j => co T j * stm p T F (k - 1 - j)) = B at this
    rwa [show A - -1 * B + (stm p T F k - B) = stm p T F k + A by omega] at this
/-- the recurrence of a fraction that begins with 1 below -/
theorem frac_rec {p : Int} {X Y : List Int} (h : fracB p X Y = true) (h1 : co Y 0 = 1) (h6 : recOfD X Y ≤ 6) {s : Nat → Int} (hs : ∀ k, numB p (s k) = true) (hf : FS p (co X) (co Y) s) :
    recB p (recOfT p Y (recOfD X Y)) (frT p X Y (recOfD X Y)) = true ∧ ∀ k, stm p (recOfT p Y (recOfD X Y)) (frT p X Y (recOfD X Y)) k = s k := by
  obtain ⟨hx, hy, _, _, h3, h4⟩ := fracB_true h
  obtain ⟨hp, _, hyn⟩ := serB_true (polB_ser hy)
  have hpb := prime_ge hp
  have hXd : X.length ≤ recOfD X Y := by unfold recOfD; omega
  have hYd : Y.length ≤ recOfD X Y + 1 := by unfold recOfD; omega
  generalize recOfD X Y = d at *
  have hlow : ∀ k, k < d → co (frT p X Y d) k = s k := fun k hk => by
    obtain ⟨_, b1, b2⟩ := frT_back hp hyn h4 (m := d) (by omega) (by omega)
    have hb := (back_law (begL_ser hp hyn (m := d) (by omega)) (by rw [begL_len]; omega) (by rw [co_begL Y (by omega)]; exact h4)).2.2.2
    rw [begL_len] at hb
    generalize hB : backL p (begL Y d) = B at hb
    unfold frT
    rw [hB, co_convR p _ _ hk]
    have hn := numB_true (hs k)
    refine near_eq (p := p) (near_trans (near_mod _ _) ?_) (Int.emod_nonneg _ (by omega)) (Int.emod_lt_of_pos _ (by omega)) hn.2.1 hn.2.2
    have e1 := near_cvl (co B) (fun k => near_symm (hf k)) k
    have e2 : cv (cv (co Y) s) (co B) k = cv s (cv (co Y) (co B)) k := by
      rw [show cv (co Y) s = cv s (co Y) from funext (cv_comm _ _), cv_assoc]
    rw [e2] at e1
    refine near_trans e1 ?_
    have e3 : p ∣ cv s (cv (co Y) (co B)) k - cv s unitF k := by
      refine cv_near k (fun j _ => by rw [Int.sub_self]; exact Int.dvd_zero p) (fun j hj => ?_)
      have := hb j (by omega)
      rwa [show cv (co (begL Y d)) (co B) j = cv (co Y) (co B) j from sigN_congr fun i hi => by rw [co_begL Y (by omega)]] at this
    rwa [cv_comm s unitF, cv_unit] at e3
  have hv : recB p (recOfT p Y d) (frT p X Y d) = true := by
    refine recB_mk hp (by rw [recOfT_len]; exact h6) (by rw [recOfT_len, frT_len]) (fun x hx => ?_) (fun x hx => ?_)
    · unfold recOfT at hx
      obtain ⟨i, _, rfl⟩ := List.mem_map.1 hx
      exact numB_emod hp _
    · unfold frT convR at hx
      obtain ⟨i, _, rfl⟩ := List.mem_map.1 hx
      exact numB_emod hp _
  refine ⟨hv, fun k => ?_⟩
  induction k using Nat.strongRecOn with
  | ind k ih =>
    by_cases hk : k < d
    · rw [stm_low p _ _ (by rw [frT_len]; exact hk)]
      exact hlow k hk
    · have hn := numB_true (hs k)
      rw [stm_next p _ _ (by rw [recOfT_len, frT_len]) (by rw [frT_len]; omega), recOfT_len]
      refine near_eq (p := p) (near_trans (near_mod _ _) ?_) (Int.emod_nonneg _ (by omega)) (Int.emod_lt_of_pos _ (by omega)) hn.2.1 hn.2.2
      have e1 := hf k
      rw [co_far (by omega), Int.sub_zero, cv_first, h1, Int.one_mul, sigN_trunc (n := d) (by omega) (fun j h1 _ => by rw [co_far (by omega)]; simp)] at e1
      have e2 : p ∣ sigN d (fun j => co (recOfT p Y d) j * stm p (recOfT p Y d) (frT p X Y d) (k - 1 - j)) - sigN d (fun j => -1 * (co Y (j + 1) * s (k - 1 - j))) := by
        refine sigN_near fun j hj => ?_
        rw [ih (k - 1 - j) (by omega), show co (recOfT p Y d) j = -(co Y (j + 1)) % p from getD_at (recOfT_get p Y hj), show -(co Y (j + 1)) % p * s (k - 1 - j) - -1 * (co Y (j + 1) * s (k - 1 - j)) = (-(co Y (j + 1)) % p - -(co Y (j + 1))) * s (k - 1 - j) by grind]
        exact dvd_mulR (near_mod _ _) _
      rw [sigN_mul] at e2
      have := Int.dvd_sub e2 e1
      generalize sigN d (fun j => co (recOfT p Y d) j * stm p (recOfT p Y d) (frT p X Y d) (k - 1 - j)) = A at this ⊢
      generalize sigN d (fun j => co Y (j + 1) * s (k - 1 - j)) = B at this
      rwa [show A - -1 * B - (s k + B) = A - s k by omega] at this
/-- RecLeast -/
theorem leastRec_law {p : Int} {T F : List Int} (h : recB p T F = true) : ∃ T' F', leastRecR p T F = (p, T', F') ∧ recB p T' F' = true ∧ (∀ k, stm p T' F' k = stm p T F k) ∧ T'.length ≤ T.length ∧ ∀ T2 F2, recB p T2 F2 = true → (∀ k, stm p T2 F2 k = stm p T F k) → T'.length ≤ T2.length := by
  obtain ⟨hp, h6, hl, hT, hF⟩ := recB_true h
  have hpb := prime_ge hp
  have lowZ : ∀ T : List Int, co (trimL (lowT p T)) 0 = 1 := fun T => by rw [co_trim]; rfl
  have n1 : ¬ p ∣ (1 : Int) := fun e => by have := Int.le_of_dvd (by omega) e; omega
  obtain ⟨_, _, hU, hL, hUl, hfo⟩ := fracOf_law h
  have hfs := rec_fs h
  have hz : co (trimL (lowT p T)) 0 ≠ 0 := by rw [lowZ]; decide
  have h0 : (trimL (lowT p T)).length ≠ 0 := fun h0 => hz (co_far (by omega))
  have hfr := leastR_some hfo
  have hX := least_fs hU hL h0 hz hfs
  obtain ⟨x1, x2, x3, x4, x5, x6⟩ := least_law hU hL h0 hz
  have k1 := trim_le (serT p (lowT p T) F)
  have k2 := trim_le (lowT p T)
  have k3 : (lowT p T).length = T.length + 1 := by simp [lowT]
  generalize (leastL p (trimL (serT p (lowT p T) F)) (trimL (lowT p T))).1 = X at *
  generalize (leastL p (trimL (serT p (lowT p T) F)) (trimL (lowT p T))).2 = Y at *
  have hXY : fracB p X Y = true := fracB_mk x1 x2 (by omega) (by omega) (by omega) (by rw [x3]; decide)
  have y0 : co Y 0 ≠ 0 := by rw [x3]; decide
  have hX2 := least_fs x1 x2 (by omega) y0 hX
  obtain ⟨z1, z2, z3, z4, z5, z6⟩ := least_law x1 x2 (by omega) y0
  have hsh : ∀ T2 F2, recB p T2 F2 = true → (∀ k, stm p T2 F2 k = stm p T F k) → recOfD (leastL p X Y).1 (leastL p X Y).2 ≤ T2.length := fun T2 F2 h2 he => by
    have hf2 := rec_fs h2
    rw [show stm p T2 F2 = stm p T F from funext he] at hf2
    obtain ⟨a, b⟩ := least_short x1 x2 (by omega) y0 hX hf2 (by rw [lowZ]; exact n1)
    obtain ⟨hlow2, hf2', _, _, _, _⟩ := fracOf_law h2
    have c1 := trim_le (serT p (lowT p T2) F2)
    have c2 := trim_le (lowT p T2)
    have c3 : (lowT p T2).length = T2.length + 1 := by simp [lowT]
    have c4 : (serT p (lowT p T2) F2).length = T2.length := by
      unfold serT
      rw [if_pos ⟨hlow2, hf2'⟩, serL_len, c3, (recB_true h2).2.2.1]
      omega
    unfold recOfD
    omega
  have hd := hsh T F h (fun _ => rfl)
  have hd6 : recOfD (leastL p X Y).1 (leastL p X Y).2 ≤ 6 := by omega
  have hR : leastRecR p T F = (p, recOfT p (leastL p X Y).2 (recOfD (leastL p X Y).1 (leastL p X Y).2), frT p (leastL p X Y).1 (leastL p X Y).2 (recOfD (leastL p X Y).1 (leastL p X Y).2)) := by
    unfold leastRecR
    rw [hfr]
    unfold recOfR
    rw [if_pos ⟨hXY, hd6⟩]
    rfl
  obtain ⟨r1, r2⟩ := frac_rec (leastL_frac hXY) z3 (by omega) (stm_num h) hX2
  exact ⟨_, _, hR, r1, r2, by rw [recOfT_len]; exact hd, fun T2 F2 h2 he => by rw [recOfT_len]; exact hsh T2 F2 h2 he⟩
end Go.Proofs.YtecmclaockmgeaaDoor
