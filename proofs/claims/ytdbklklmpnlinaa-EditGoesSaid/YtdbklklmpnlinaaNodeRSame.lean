/- bowerref10.Same: whether two nodes have the same, as the document says. Nothing that was there has turned. -/
import Derived.Test.YtdbklklmpnlinaaNodeSameOps
namespace Go.Proofs.Ytdbklklmpnlinaa
open Go.RowKit

set_option maxHeartbeats 8000000 in
set_option maxRecDepth 100000 in
theorem rnsame_of (lv nx : Int) (lo hi : ByteArray) (la : Bool) (ak av ac : Option Addr) (nk ck nv cv nc cc : Nat) (lv2 nx2 : Int) (lo2 hi2 : ByteArray) (la2 : Bool) (ak2 av2 ac2 : Option Addr) (nk2 ck2 nv2 cv2 nc2 cc2 : Nat) (ks : List ByteArray) (vs : List Nat) (cs : List Int) (ks2 : List ByteArray) (vs2 : List Nat) (cs2 : List Int) (b : Bool) (w : World) (hN : NdAt w ak av ac nk ck nv cv nc cc ks vs cs) (hM : NdAt w ak2 av2 ac2 nk2 ck2 nv2 cv2 nc2 cc2 ks2 vs2 cs2)
    (hb : b = true ↔ SameP lv nx lo hi la ks vs cs lv2 nx2 lo2 hi2 la2 ks2 vs2 cs2) :
    Calls Try.prog 23 #[.agg #[.int .i64 lv, .string lo, .string hi, .bool la, .int .i64 nx, .slice ak nk ck, .slice av nv cv, .slice ac nc cc], .agg #[.int .i64 lv2, .string lo2, .string hi2, .bool la2, .int .i64 nx2, .slice ak2 nk2 ck2, .slice av2 nv2 cv2, .slice ac2 nc2 cc2]] w fun e w' => e = .returned (.bool b) ∧ Below w.heap.size w w' := by
  obtain ⟨n1, n2, hB⟩ := boxes2 w #[.int .i64 lv, .string lo, .string hi, .bool la, .int .i64 nx, .slice ak nk ck, .slice av nv cv, .slice ac nc cc] #[.int .i64 lv2, .string lo2, .string hi2, .bool la2, .int .i64 nx2, .slice ak2 nk2 ck2, .slice av2 nv2 cv2, .slice ac2 nc2 cc2]
  obtain ⟨w1, hw1⟩ : ∃ w1, w1 = (w.alloc (.cells #[.int .i64 lv, .string lo, .string hi, .bool la, .int .i64 nx, .slice ak nk ck, .slice av nv cv, .slice ac nc cc] 41)).alloc (.cells #[.int .i64 lv2, .string lo2, .string hi2, .bool la2, .int .i64 nx2, .slice ak2 nk2 ck2, .slice av2 nv2 cv2, .slice ac2 nc2 cc2] 41) := ⟨_, rfl⟩
  have HB : Hid (Below w.heap.size w w1) := Lib.hid (by rw [hw1]; exact hB)
  have HN1 : Hid (NB w1 w.heap.size #[.int .i64 lv, .string lo, .string hi, .bool la, .int .i64 nx, .slice ak nk ck, .slice av nv cv, .slice ac nc cc]) := Lib.hid (by rw [hw1]; exact n1)
  have HN2 : Hid (NB w1 (w.heap.size + 1) #[.int .i64 lv2, .string lo2, .string hi2, .bool la2, .int .i64 nx2, .slice ak2 nk2 ck2, .slice av2 nv2 cv2, .slice ac2 nc2 cc2]) := Lib.hid (by rw [hw1]; exact n2)
  have HW1 := Lib.hid hw1
  have HBB := Lib.hid hb
  have HND := Lib.hid hN
  have HMD := Lib.hid hM
  have lk := rd_len hN.k
  have lv_ := rd_len hN.v
  have lc := rd_len hN.c
  have lk2 := rd_len hM.k
  have lv2_ := rd_len hM.v
  have lc2 := rd_len hM.c
  have x1 := lk.2.2
  have x2 := lv_.2.2
  have x3 := lc.2.2
  have x4 := lk2.2.2
  have x5 := lv2_.2.2
  have x6 := lc2.2.2
  have y2 := lv_.2.1
  have y3 := lc.2.1
  have y5 := lv2_.2.1
  have y6 := lc2.2.1
  have y1 := lk.2.1
  have y4 := lk2.2.1
  have HLEN := Lib.hid (And.intro (And.intro lv_.1 lv2_.1) (And.intro lc.1 lc2.1))
  obtain ⟨bk, hbk⟩ := bool_or (ks = ks2)
  have HK := Lib.hid hbk
  have HE := Lib.hid (fun W (hb : Below w.heap.size w W) => rsameStr_any ak ak2 nk ck nk2 ck2 ks ks2 bk W (hN.k.keep hb) (hM.k.keep hb) hbk)
  clear hN hM hb hbk lk lv_ lc lk2 lv2_ lc2 hB n1 n2 hw1
  by_cases hlv : lv = lv2
  case neg =>
    have z1 : (lv != lv2) = true := by rw [bne_iff_ne]; exact hlv
    have HN : Hid (b = false) := Lib.hid (bool_no HBB.out (fun h => hlv h.lv))
    clear hlv HE
    go_enter Try.func23, Try.ntmps23
    go_wp2
    go_ret
    exact ⟨ret_b HN.out.symm, by rw [← HW1.out]; exact HB.out⟩
  case pos =>
    subst hlv
    by_cases hlo : lo = lo2
    case neg =>
      have z1 := (txt_not hlo).1
      have z2 := (txt_not hlo).2
      have HN : Hid (b = false) := Lib.hid (bool_no HBB.out (fun h => hlo h.lo))
      clear hlo HE
      go_enter Try.func23, Try.ntmps23
      go_wp2
      go_ret
      exact ⟨ret_b HN.out.symm, by rw [← HW1.out]; exact HB.out⟩
    case pos =>
      subst hlo
      by_cases hhi : hi = hi2
      case neg =>
        have z1 := (txt_not hhi).1
        have z2 := (txt_not hhi).2
        have HN : Hid (b = false) := Lib.hid (bool_no HBB.out (fun h => hhi h.hi))
        clear hhi HE
        go_enter Try.func23, Try.ntmps23
        go_wp2
        go_ret
        exact ⟨ret_b HN.out.symm, by rw [← HW1.out]; exact HB.out⟩
      case pos =>
        subst hhi
        by_cases hla : la = la2
        case neg =>
          have HN : Hid (b = false) := Lib.hid (bool_no HBB.out (fun h => hla h.la))
          have hc : (la = true ∧ la2 = false) ∨ (la = false ∧ la2 = true) := by cases la <;> cases la2 <;> simp at hla ⊢
          clear hla HE
          rcases hc with ⟨rfl, rfl⟩ | ⟨rfl, rfl⟩
          all_goals
            go_enter Try.func23, Try.ntmps23
            go_wp2
            go_ret
            exact ⟨ret_b HN.out.symm, by rw [← HW1.out]; exact HB.out⟩
        case pos =>
          subst hla
          by_cases hnx : nx = nx2
          case neg =>
            have z1 : (nx != nx2) = true := by rw [bne_iff_ne]; exact hnx
            have HN : Hid (b = false) := Lib.hid (bool_no HBB.out (fun h => hnx h.nx))
            clear hnx HE
            go_enter Try.func23, Try.ntmps23
            go_wp2
            go_ret
            exact ⟨ret_b HN.out.symm, by rw [← HW1.out]; exact HB.out⟩
          case pos =>
            subst hnx
            cases bk with
            | false =>
              have HN : Hid (b = false) := Lib.hid (bool_no HBB.out (fun h => by have := HK.out.2 h.ks; cases this))
              go_enter Try.func23, Try.ntmps23
              go_wp2_with fail
              rw [← HW1.out]
              refine (HE.out _ HB.out).mono ?_
              rintro e w2 ⟨rfl, hd⟩
              have HB2 := Lib.hid (HB.out.trans (hd.below _))
              have HM1 := Lib.hid (HN1.out.below (hd.below _))
              have HM2 := Lib.hid (HN2.out.below (hd.below _))
              clear hd
              obtain ⟨a0, a1, a2, a3, a4, a5, a6, a7⟩ := HM1.out.cells
              obtain ⟨b0, b1, b2, b3, b4, b5, b6, b7⟩ := HM2.out.cells
              go_wp2
              go_ret
              exact ⟨ret_b HN.out.symm, HB2.out⟩
            | true =>
              by_cases hv : nv = nv2
              case neg =>
                have z1 : ((nv : Int) != (nv2 : Int)) = true := by rw [bne_iff_ne]; omega
                have HN : Hid (b = false) := Lib.hid (bool_no HBB.out (fun h => hv (by rw [← HLEN.out.1.1, ← HLEN.out.1.2, h.vs])))
                clear hv
                go_enter Try.func23, Try.ntmps23
                go_wp2_with fail
                rw [← HW1.out]
                refine (HE.out _ HB.out).mono ?_
                rintro e w2 ⟨rfl, hd⟩
                have HB2 := Lib.hid (HB.out.trans (hd.below _))
                have HM1 := Lib.hid (HN1.out.below (hd.below _))
                have HM2 := Lib.hid (HN2.out.below (hd.below _))
                clear hd
                obtain ⟨a0, a1, a2, a3, a4, a5, a6, a7⟩ := HM1.out.cells
                obtain ⟨b0, b1, b2, b3, b4, b5, b6, b7⟩ := HM2.out.cells
                go_wp2
                go_ret
                exact ⟨ret_b HN.out.symm, HB2.out⟩
              case pos =>
                subst hv
                have z1 : ((nv : Int) != (nv : Int)) = false := by simp
                by_cases hc : nc = nc2
                case neg =>
                  have z2 : ((nc : Int) != (nc2 : Int)) = true := by rw [bne_iff_ne]; omega
                  have HN : Hid (b = false) := Lib.hid (bool_no HBB.out (fun h => hc (by rw [← HLEN.out.2.1, ← HLEN.out.2.2, h.cs])))
                  clear hc
                  go_enter Try.func23, Try.ntmps23
                  go_wp2_with fail
                  rw [← HW1.out]
                  refine (HE.out _ HB.out).mono ?_
                  rintro e w2 ⟨rfl, hd⟩
                  have HB2 := Lib.hid (HB.out.trans (hd.below _))
                  have HM1 := Lib.hid (HN1.out.below (hd.below _))
                  have HM2 := Lib.hid (HN2.out.below (hd.below _))
                  clear hd
                  obtain ⟨a0, a1, a2, a3, a4, a5, a6, a7⟩ := HM1.out.cells
                  obtain ⟨b0, b1, b2, b3, b4, b5, b6, b7⟩ := HM2.out.cells
                  go_wp2
                  go_ret
                  exact ⟨ret_b HN.out.symm, HB2.out⟩
                case pos =>
                  subst hc
                  have z2 : ((nc : Int) != (nc : Int)) = false := by simp
                  go_enter Try.func23, Try.ntmps23
                  go_wp2_with fail
                  rw [← HW1.out]
                  refine (HE.out _ HB.out).mono ?_
                  rintro e w2 ⟨rfl, hd⟩
                  have HB2 := Lib.hid (HB.out.trans (hd.below _))
                  have HM1 := Lib.hid (HN1.out.below (hd.below _))
                  have HM2 := Lib.hid (HN2.out.below (hd.below _))
                  clear hd
                  obtain ⟨a0, a1, a2, a3, a4, a5, a6, a7⟩ := HM1.out.cells
                  obtain ⟨b0, b1, b2, b3, b4, b5, b6, b7⟩ := HM2.out.cells
                  go_wp2
                  clear a0 a1 a2 a3 a4 a5 a6 a7 b0 b1 b2 b3 b4 b5 b6 b7
                  go_loopw [5] (fun s wr => ∃ i : Nat, s = .int .i64 i ∧ i ≤ nv ∧ Hid (Below w2.heap.size w2 wr) ∧ Hid (∀ j, j < i → vs.getD j 0 = vs2.getD j 0)) (fun s _ => nv - (intOf s).toNat)
                  case atStart => exact ⟨0, rfl, Nat.zero_le _, Lib.hid (Below.refl _ _), Lib.hid (fun j hj => absurd hj (Nat.not_lt_zero _))⟩
                  case round =>
                    obtain ⟨i, rfl, hin, hbw, hall⟩ := hrel
                    have HBW := Lib.hid (HB2.out.trans (hbw.out.mono HB2.out.size))
                    have HP1 := Lib.hid (HM1.out.below hbw.out)
                    have HP2 := Lib.hid (HM2.out.below hbw.out)
                    obtain ⟨a0, a1, a2, a3, a4, a5, a6, a7⟩ := HP1.out.cells
                    obtain ⟨b0, b1, b2, b3, b4, b5, b6, b7⟩ := HP2.out.cells
                    by_cases hlt : i < nv
                    · obtain ⟨p1, o1, e1, hc1⟩ := rd_at (HND.out.keep HBW.out).v 0 i hlt
                      obtain ⟨p2, o2, e2, hc2⟩ := rd_at (HMD.out.keep HBW.out).v 0 i hlt
                      have k1 := hc1 i hlt
                      have k2 := hc2 i hlt
                      subst e1 e2
                      have hlt' : (i : Int) < nv := by omega
                      have HBD := Lib.hid (fun n => (hbw.out.trans (Drew.below (w := wr) (w' := wr.drewN n) ⟨n, rfl⟩ _) : Below w2.heap.size w2 (wr.drewN n)))
                      have HBDW := Lib.hid (fun n => (HBW.out.trans (Drew.below (w := wr) (w' := wr.drewN n) ⟨n, rfl⟩ _) : Below w.heap.size w (wr.drewN n)))
                      clear hc1 hc2
                      unfold uv at k1 k2
                      by_cases he : vs.getD i 0 = vs2.getD i 0
                      · have HN : Hid (∀ j, j < i + 1 → vs.getD j 0 = vs2.getD j 0) := Lib.hid (fun j hj => by
                          by_cases e : j = i
                          · subst e; exact he
                          · exact hall.out j (by omega))
                        have r1 : ((vs.getD i 0 : Int) != (vs2.getD i 0 : Int)) = false := by rw [he]; simp
                        have r2 : (vs.getD i 0 != vs2.getD i 0) = false := by rw [he]; simp
                        clear he
                        generalize vs.getD i 0 = x at *
                        generalize vs2.getD i 0 = y at *
                        go_wp2
                        go_quiet (fail)
                        go_wp2
                        go_roundw
                        case rel => exact ⟨i + 1, by go_num, by omega, Lib.hid (HBD.out _), HN⟩
                        case measure => simp [intOf]; omega
                      · have HN : Hid (b = false) := Lib.hid (bool_no HBB.out (fun h => rows_ne 0 i he h.vs))
                        have r1 : ((vs.getD i 0 : Int) != (vs2.getD i 0 : Int)) = true := by rw [bne_iff_ne]; omega
                        have r2 : (vs.getD i 0 != vs2.getD i 0) = true := by rw [bne_iff_ne]; exact he
                        clear he
                        generalize vs.getD i 0 = x at *
                        generalize vs2.getD i 0 = y at *
                        go_wp2
                        go_quiet (fail)
                        go_wp2
                        go_ret
                        exact ⟨ret_b HN.out.symm, HBDW.out _⟩
                    · obtain rfl : i = nv := by omega
                      have HVE : Hid (vs = vs2) := Lib.hid (rows_eq 0 (HLEN.out.1.1.trans HLEN.out.1.2.symm) (fun j hj => hall.out j (by have := HLEN.out.1.1; omega)))
                      go_wp2
                      obtain ⟨w3, rfl⟩ : ∃ w3 : World, w3 = wr := ⟨_, rfl⟩
                      have HB3 := HBW
                      have HL1 := HP1
                      have HL2 := HP2
                      clear a0 a1 a2 a3 a4 a5 a6 a7 b0 b1 b2 b3 b4 b5 b6 b7
                      go_loopw [6] (fun s wr => ∃ i : Nat, s = .int .i64 i ∧ i ≤ nc ∧ Hid (Below w3.heap.size w3 wr) ∧ Hid (∀ j, j < i → cs.getD j 0 = cs2.getD j 0)) (fun s _ => nc - (intOf s).toNat)
                      case atStart => exact ⟨0, rfl, Nat.zero_le _, Lib.hid (Below.refl _ _), Lib.hid (fun j hj => absurd hj (Nat.not_lt_zero _))⟩
                      case round =>
                        obtain ⟨i, rfl, hin, hbw, hall⟩ := hrel
                        have HBW := Lib.hid (HB3.out.trans (hbw.out.mono HB3.out.size))
                        have HP1 := Lib.hid (HL1.out.below hbw.out)
                        have HP2 := Lib.hid (HL2.out.below hbw.out)
                        obtain ⟨a0, a1, a2, a3, a4, a5, a6, a7⟩ := HP1.out.cells
                        obtain ⟨b0, b1, b2, b3, b4, b5, b6, b7⟩ := HP2.out.cells
                        by_cases hlt : i < nc
                        · obtain ⟨p1, o1, e1, hc1⟩ := rd_at (HND.out.keep HBW.out).c 0 i hlt
                          obtain ⟨p2, o2, e2, hc2⟩ := rd_at (HMD.out.keep HBW.out).c 0 i hlt
                          have k1 := hc1 i hlt
                          have k2 := hc2 i hlt
                          subst e1 e2
                          have hlt' : (i : Int) < nc := by omega
                          have HBD := Lib.hid (fun n => (hbw.out.trans (Drew.below (w := wr) (w' := wr.drewN n) ⟨n, rfl⟩ _) : Below w3.heap.size w3 (wr.drewN n)))
                          have HBDW := Lib.hid (fun n => (HBW.out.trans (Drew.below (w := wr) (w' := wr.drewN n) ⟨n, rfl⟩ _) : Below w.heap.size w (wr.drewN n)))
                          clear hc1 hc2
                          by_cases he : cs.getD i 0 = cs2.getD i 0
                          · have HN : Hid (∀ j, j < i + 1 → cs.getD j 0 = cs2.getD j 0) := Lib.hid (fun j hj => by
                              by_cases e : j = i
                              · subst e; exact he
                              · exact hall.out j (by omega))
                            have r2 : (cs.getD i 0 != cs2.getD i 0) = false := by rw [he]; simp
                            clear he
                            generalize cs.getD i 0 = x at *
                            generalize cs2.getD i 0 = y at *
                            go_wp2
                            go_quiet (fail)
                            go_wp2
                            go_roundw
                            case rel => exact ⟨i + 1, by go_num, by omega, Lib.hid (HBD.out _), HN⟩
                            case measure => simp [intOf]; omega
                          · have HN : Hid (b = false) := Lib.hid (bool_no HBB.out (fun h => rows_ne 0 i he h.cs))
                            have r2 : (cs.getD i 0 != cs2.getD i 0) = true := by rw [bne_iff_ne]; exact he
                            clear he
                            generalize cs.getD i 0 = x at *
                            generalize cs2.getD i 0 = y at *
                            go_wp2
                            go_quiet (fail)
                            go_wp2
                            go_ret
                            exact ⟨ret_b HN.out.symm, HBDW.out _⟩
                        · obtain rfl : i = nc := by omega
                          have HCE : Hid (cs = cs2) := Lib.hid (rows_eq 0 (HLEN.out.2.1.trans HLEN.out.2.2.symm) (fun j hj => hall.out j (by have := HLEN.out.2.1; omega)))
                          have HN : Hid (b = true) := Lib.hid (HBB.out.2 ⟨rfl, rfl, rfl, rfl, rfl, HK.out.1 (by trivial), HVE.out, HCE.out⟩)
                          go_wp2
                          go_ret
                          exact ⟨ret_b HN.out.symm, HBW.out⟩
end Go.Proofs.Ytdbklklmpnlinaa
