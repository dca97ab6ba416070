/- node.frameOf, Same; bowerref10.Same: whether two nodes have the same. Nothing that was there has turned. -/
import Derived.Test.YtlcnnnljdffbmaaNodeEq
import Derived.Test.YtlcnnnljdffbmaaLater
namespace Go.Proofs.Ytlcnnnljdffbmaa
open Go.RowKit

/-- Both have the same. -/
structure SameP (lv nx : Int) (lo hi : ByteArray) (la : Bool) (ks : List ByteArray) (vs : List Nat) (cs : List Int) (lv2 nx2 : Int) (lo2 hi2 : ByteArray) (la2 : Bool) (ks2 : List ByteArray) (vs2 : List Nat) (cs2 : List Int) : Prop where
  lv : lv = lv2
  lo : lo = lo2
  hi : hi = hi2
  la : la = la2
  nx : nx = nx2
  ks : ks = ks2
  vs : vs = vs2
  cs : cs = cs2

theorem frameOf_any (lv nx : Int) (lo hi : ByteArray) (la : Bool) (ak av ac : Option Addr) (nk ck nv cv nc cc : Nat) (w : World) : Calls Try.prog 50 #[.agg #[.int .i64 lv, .string lo, .string hi, .bool la, .int .i64 nx, .slice ak nk ck, .slice av nv cv, .slice ac nc cc]] w fun e w' => e = .returned (.agg #[.int .i64 lv, .string lo, .string hi, .bool la, .int .i64 nx]) ∧ Below w.heap.size w w' := by
  have HB := Lib.hid (boxed_below w (.cells #[.int .i64 lv, .string lo, .string hi, .bool la, .int .i64 nx, .slice ak nk ck, .slice av nv cv, .slice ac nc cc] 26))
  go_enter Try.func50, Try.ntmps50
  go_wp2
  refine bodyPost_ret (v := .agg #[.int .i64 lv, .string lo, .string hi, .bool la, .int .i64 nx]) (by simp [results, Try.results50, go_sem, *]) rfl ⟨rfl, ?_⟩
  exact HB.out.alloc HB.out.size _

/-- Two boxes. -/
theorem boxes2 (w : World) (c1 c2 : Array Value) : NB ((w.alloc (.cells c1 26)).alloc (.cells c2 26)) w.heap.size c1 ∧ NB ((w.alloc (.cells c1 26)).alloc (.cells c2 26)) (w.heap.size + 1) c2 ∧ Below w.heap.size w ((w.alloc (.cells c1 26)).alloc (.cells c2 26)) := by
  have e : (w.alloc (.cells c1 26)).heap.size = w.heap.size + 1 := World.size_alloc _ _
  refine ⟨(NB.new w c1).below (boxed_below _ _), ?_, (boxed_below w _).alloc (by omega) _⟩
  have := NB.new (w.alloc (.cells c1 26)) c2
  rw [e] at this
  exact this

set_option maxHeartbeats 4000000 in
set_option maxRecDepth 100000 in
theorem nsame_of (lv nx : Int) (lo hi : ByteArray) (la : Bool) (ak av ac : Option Addr) (nk ck nv cv nc cc : Nat) (lv2 nx2 : Int) (lo2 hi2 : ByteArray) (la2 : Bool) (ak2 av2 ac2 : Option Addr) (nk2 ck2 nv2 cv2 nc2 cc2 : Nat) (ks : List ByteArray) (vs : List Nat) (cs : List Int) (ks2 : List ByteArray) (vs2 : List Nat) (cs2 : List Int) (b : Bool) (w : World) (hN : NdAt w ak av ac nk ck nv cv nc cc ks vs cs) (hM : NdAt w ak2 av2 ac2 nk2 ck2 nv2 cv2 nc2 cc2 ks2 vs2 cs2)
    (hb : b = true ↔ SameP lv nx lo hi la ks vs cs lv2 nx2 lo2 hi2 la2 ks2 vs2 cs2) :
    Calls Try.prog 12 #[.agg #[.int .i64 lv, .string lo, .string hi, .bool la, .int .i64 nx, .slice ak nk ck, .slice av nv cv, .slice ac nc cc], .agg #[.int .i64 lv2, .string lo2, .string hi2, .bool la2, .int .i64 nx2, .slice ak2 nk2 ck2, .slice av2 nv2 cv2, .slice ac2 nc2 cc2]] w fun e w' => e = .returned (.bool b) ∧ Below w.heap.size w w' := by
  obtain ⟨n1, n2, hB⟩ := boxes2 w #[.int .i64 lv, .string lo, .string hi, .bool la, .int .i64 nx, .slice ak nk ck, .slice av nv cv, .slice ac nc cc] #[.int .i64 lv2, .string lo2, .string hi2, .bool la2, .int .i64 nx2, .slice ak2 nk2 ck2, .slice av2 nv2 cv2, .slice ac2 nc2 cc2]
  obtain ⟨w1, hw1⟩ : ∃ w1, w1 = (w.alloc (.cells #[.int .i64 lv, .string lo, .string hi, .bool la, .int .i64 nx, .slice ak nk ck, .slice av nv cv, .slice ac nc cc] 26)).alloc (.cells #[.int .i64 lv2, .string lo2, .string hi2, .bool la2, .int .i64 nx2, .slice ak2 nk2 ck2, .slice av2 nv2 cv2, .slice ac2 nc2 cc2] 26) := ⟨_, rfl⟩
  rw [← hw1] at n1 n2 hB
  have a0 : ∀ p : Later w1, p.w.cell? ⟨w.heap.size, 0, none⟩ = some (.int .i64 lv) := fun p => (n1.below p.h).cells.1
  have a1 : ∀ p : Later w1, p.w.cell? ⟨w.heap.size, 1, none⟩ = some (.string lo) := fun p => (n1.below p.h).cells.2.1
  have a2 : ∀ p : Later w1, p.w.cell? ⟨w.heap.size, 2, none⟩ = some (.string hi) := fun p => (n1.below p.h).cells.2.2.1
  have a3 : ∀ p : Later w1, p.w.cell? ⟨w.heap.size, 3, none⟩ = some (.bool la) := fun p => (n1.below p.h).cells.2.2.2.1
  have a4 : ∀ p : Later w1, p.w.cell? ⟨w.heap.size, 4, none⟩ = some (.int .i64 nx) := fun p => (n1.below p.h).cells.2.2.2.2.1
  have a5 : ∀ p : Later w1, p.w.cell? ⟨w.heap.size, 5, none⟩ = some (.slice ak nk ck) := fun p => (n1.below p.h).cells.2.2.2.2.2.1
  have a6 : ∀ p : Later w1, p.w.cell? ⟨w.heap.size, 6, none⟩ = some (.slice av nv cv) := fun p => (n1.below p.h).cells.2.2.2.2.2.2.1
  have a7 : ∀ p : Later w1, p.w.cell? ⟨w.heap.size, 7, none⟩ = some (.slice ac nc cc) := fun p => (n1.below p.h).cells.2.2.2.2.2.2.2
  have b0 : ∀ p : Later w1, p.w.cell? ⟨w.heap.size + 1, 0, none⟩ = some (.int .i64 lv2) := fun p => (n2.below p.h).cells.1
  have b1 : ∀ p : Later w1, p.w.cell? ⟨w.heap.size + 1, 1, none⟩ = some (.string lo2) := fun p => (n2.below p.h).cells.2.1
  have b2 : ∀ p : Later w1, p.w.cell? ⟨w.heap.size + 1, 2, none⟩ = some (.string hi2) := fun p => (n2.below p.h).cells.2.2.1
  have b3 : ∀ p : Later w1, p.w.cell? ⟨w.heap.size + 1, 3, none⟩ = some (.bool la2) := fun p => (n2.below p.h).cells.2.2.2.1
  have b4 : ∀ p : Later w1, p.w.cell? ⟨w.heap.size + 1, 4, none⟩ = some (.int .i64 nx2) := fun p => (n2.below p.h).cells.2.2.2.2.1
  have b5 : ∀ p : Later w1, p.w.cell? ⟨w.heap.size + 1, 5, none⟩ = some (.slice ak2 nk2 ck2) := fun p => (n2.below p.h).cells.2.2.2.2.2.1
  have b6 : ∀ p : Later w1, p.w.cell? ⟨w.heap.size + 1, 6, none⟩ = some (.slice av2 nv2 cv2) := fun p => (n2.below p.h).cells.2.2.2.2.2.2.1
  have b7 : ∀ p : Later w1, p.w.cell? ⟨w.heap.size + 1, 7, none⟩ = some (.slice ac2 nc2 cc2) := fun p => (n2.below p.h).cells.2.2.2.2.2.2.2
  have HB := Lib.hid hB
  have HW1 := Lib.hid hw1
  have HF1 := Lib.hid (fun W => frameOf_any lv nx lo hi la ak av ac nk ck nv cv nc cc W)
  have HF2 := Lib.hid (fun W => frameOf_any lv2 nx2 lo2 hi2 la2 ak2 av2 ac2 nk2 ck2 nv2 cv2 nc2 cc2 W)
  have HBB := Lib.hid hb
  obtain ⟨bk, hbk⟩ := bool_or (ks = ks2)
  obtain ⟨bv, hbv⟩ := bool_or (vs = vs2)
  obtain ⟨bc, hbc⟩ := bool_or (cs = cs2)
  have HE1 := Lib.hid (fun W (hb : Below w1.heap.size w1 W) => (equalStr_any ak ak2 nk ck nk2 ck2 ks ks2 bk W ((hN.k.keep HB.out).keep hb) ((hM.k.keep HB.out).keep hb) hbk).mono (fun e w' ⟨h1, h2⟩ => And.intro h1 (h2.below W.heap.size)))
  have HE2 := Lib.hid (fun W (hb : Below w1.heap.size w1 W) => (equalU64_any av av2 nv cv nv2 cv2 vs vs2 bv W ((hN.v.keep HB.out).keep hb) ((hM.v.keep HB.out).keep hb) hbv).mono (fun e w' ⟨h1, h2⟩ => And.intro h1 (h2.below W.heap.size)))
  have HE3 := Lib.hid (fun W (hb : Below w1.heap.size w1 W) => (equalInt_any ac ac2 nc cc nc2 cc2 cs cs2 bc W ((hN.c.keep HB.out).keep hb) ((hM.c.keep HB.out).keep hb) hbc).mono (fun e w' ⟨h1, h2⟩ => And.intro h1 (h2.below W.heap.size)))
  have HK := Lib.hid hbk
  have HV := Lib.hid hbv
  have HKC := Lib.hid hbc
  clear n1 n2 hB hw1 hN hM hb hbk hbv hbc
  by_cases hlv : lv = lv2
  case neg =>
    have z1 : (lv == lv2) = false := beq_eq_false_iff_ne.2 hlv
    have HN : Hid (b = false) := Lib.hid (bool_no HBB.out (fun h => hlv h.lv))
    clear hlv HE1 HE2 HE3
    go_enter Try.func12, Try.ntmps12
    go_wp2
    rw [← HW1.out]
    refine wp_region_later (by kernel_rfl) (by kernel_rfl) ?_
    repeat (quiet_step ((first | (go_at_call 50; (with_reducible exact later_of (HF1.out _))) | (go_at_call 50; (with_reducible exact later_of (HF2.out _))) | (go_at_call 51; (with_reducible exact later_of (HE1.out _ (Later.h _)))) | (go_at_call 52; (with_reducible exact later_of (HE2.out _ (Later.h _)))) | (go_at_call 53; (with_reducible exact later_of (HE3.out _ (Later.h _)))))))
    refine wpQuiet_nil ?_
    intro _ hw'
    obtain ⟨⟨wq, hwq⟩, hw''⟩ := hw'
    subst hw''
    go_wp2
    go_ret
    exact ⟨ret_b HN.out.symm, HB.out.trans (hwq.mono HB.out.size)⟩
  case pos =>
    subst hlv
    by_cases hlo : lo = lo2
    case neg =>
      have z1 := (txt_not hlo).1
      have z2 := (txt_not hlo).2
      have HN : Hid (b = false) := Lib.hid (bool_no HBB.out (fun h => hlo h.lo))
      clear hlo HE1 HE2 HE3
      go_enter Try.func12, Try.ntmps12
      go_wp2
      rw [← HW1.out]
      refine wp_region_later (by kernel_rfl) (by kernel_rfl) ?_
      repeat (quiet_step ((first | (go_at_call 50; (with_reducible exact later_of (HF1.out _))) | (go_at_call 50; (with_reducible exact later_of (HF2.out _))) | (go_at_call 51; (with_reducible exact later_of (HE1.out _ (Later.h _)))) | (go_at_call 52; (with_reducible exact later_of (HE2.out _ (Later.h _)))) | (go_at_call 53; (with_reducible exact later_of (HE3.out _ (Later.h _)))))))
      refine wpQuiet_nil ?_
      intro _ hw'
      obtain ⟨⟨wq, hwq⟩, hw''⟩ := hw'
      subst hw''
      go_wp2
      go_ret
      exact ⟨ret_b HN.out.symm, HB.out.trans (hwq.mono HB.out.size)⟩
    case pos =>
      subst hlo
      by_cases hhi : hi = hi2
      case neg =>
        have z1 := (txt_not hhi).1
        have z2 := (txt_not hhi).2
        have HN : Hid (b = false) := Lib.hid (bool_no HBB.out (fun h => hhi h.hi))
        clear hhi HE1 HE2 HE3
        go_enter Try.func12, Try.ntmps12
        go_wp2
        rw [← HW1.out]
        refine wp_region_later (by kernel_rfl) (by kernel_rfl) ?_
        repeat (quiet_step ((first | (go_at_call 50; (with_reducible exact later_of (HF1.out _))) | (go_at_call 50; (with_reducible exact later_of (HF2.out _))) | (go_at_call 51; (with_reducible exact later_of (HE1.out _ (Later.h _)))) | (go_at_call 52; (with_reducible exact later_of (HE2.out _ (Later.h _)))) | (go_at_call 53; (with_reducible exact later_of (HE3.out _ (Later.h _)))))))
        refine wpQuiet_nil ?_
        intro _ hw'
        obtain ⟨⟨wq, hwq⟩, hw''⟩ := hw'
        subst hw''
        go_wp2
        go_ret
        exact ⟨ret_b HN.out.symm, HB.out.trans (hwq.mono HB.out.size)⟩
      case pos =>
        subst hhi
        by_cases hla : la = la2
        case neg =>
          have z1 : (la == la2) = false := beq_eq_false_iff_ne.2 hla
          have HN : Hid (b = false) := Lib.hid (bool_no HBB.out (fun h => hla h.la))
          clear hla HE1 HE2 HE3
          go_enter Try.func12, Try.ntmps12
          go_wp2
          rw [← HW1.out]
          refine wp_region_later (by kernel_rfl) (by kernel_rfl) ?_
          repeat (quiet_step ((first | (go_at_call 50; (with_reducible exact later_of (HF1.out _))) | (go_at_call 50; (with_reducible exact later_of (HF2.out _))) | (go_at_call 51; (with_reducible exact later_of (HE1.out _ (Later.h _)))) | (go_at_call 52; (with_reducible exact later_of (HE2.out _ (Later.h _)))) | (go_at_call 53; (with_reducible exact later_of (HE3.out _ (Later.h _)))))))
          refine wpQuiet_nil ?_
          intro _ hw'
          obtain ⟨⟨wq, hwq⟩, hw''⟩ := hw'
          subst hw''
          go_wp2
          go_ret
          exact ⟨ret_b HN.out.symm, HB.out.trans (hwq.mono HB.out.size)⟩
        case pos =>
          subst hla
          by_cases hnx : nx = nx2
          case neg =>
            have z1 : (nx == nx2) = false := beq_eq_false_iff_ne.2 hnx
            have HN : Hid (b = false) := Lib.hid (bool_no HBB.out (fun h => hnx h.nx))
            clear hnx HE1 HE2 HE3
            go_enter Try.func12, Try.ntmps12
            go_wp2
            rw [← HW1.out]
            refine wp_region_later (by kernel_rfl) (by kernel_rfl) ?_
            repeat (quiet_step ((first | (go_at_call 50; (with_reducible exact later_of (HF1.out _))) | (go_at_call 50; (with_reducible exact later_of (HF2.out _))) | (go_at_call 51; (with_reducible exact later_of (HE1.out _ (Later.h _)))) | (go_at_call 52; (with_reducible exact later_of (HE2.out _ (Later.h _)))) | (go_at_call 53; (with_reducible exact later_of (HE3.out _ (Later.h _)))))))
            refine wpQuiet_nil ?_
            intro _ hw'
            obtain ⟨⟨wq, hwq⟩, hw''⟩ := hw'
            subst hw''
            go_wp2
            go_ret
            exact ⟨ret_b HN.out.symm, HB.out.trans (hwq.mono HB.out.size)⟩
          case pos =>
            subst hnx
            cases bk with
            | false =>
              have HN : Hid (b = false) := Lib.hid (bool_no HBB.out (fun h => by have := HK.out.2 h.ks; cases this))
              clear HE2 HE3
              go_enter Try.func12, Try.ntmps12
              go_wp2
              rw [← HW1.out]
              refine wp_region_later (by kernel_rfl) (by kernel_rfl) ?_
              repeat (quiet_step ((first | (go_at_call 50; (with_reducible exact later_of (HF1.out _))) | (go_at_call 50; (with_reducible exact later_of (HF2.out _))) | (go_at_call 51; (with_reducible exact later_of (HE1.out _ (Later.h _)))) | (go_at_call 52; (with_reducible exact later_of (HE2.out _ (Later.h _)))) | (go_at_call 53; (with_reducible exact later_of (HE3.out _ (Later.h _)))))))
              refine wpQuiet_nil ?_
              intro _ hw'
              obtain ⟨⟨wq, hwq⟩, hw''⟩ := hw'
              subst hw''
              go_wp2
              go_ret
              exact ⟨ret_b HN.out.symm, HB.out.trans (hwq.mono HB.out.size)⟩
            | true =>
              cases bv with
              | false =>
                have HN : Hid (b = false) := Lib.hid (bool_no HBB.out (fun h => by have := HV.out.2 h.vs; cases this))
                clear HE3
                go_enter Try.func12, Try.ntmps12
                go_wp2
                rw [← HW1.out]
                refine wp_region_later (by kernel_rfl) (by kernel_rfl) ?_
                repeat (quiet_step ((first | (go_at_call 50; (with_reducible exact later_of (HF1.out _))) | (go_at_call 50; (with_reducible exact later_of (HF2.out _))) | (go_at_call 51; (with_reducible exact later_of (HE1.out _ (Later.h _)))) | (go_at_call 52; (with_reducible exact later_of (HE2.out _ (Later.h _)))) | (go_at_call 53; (with_reducible exact later_of (HE3.out _ (Later.h _)))))))
                refine wpQuiet_nil ?_
                intro _ hw'
                obtain ⟨⟨wq, hwq⟩, hw''⟩ := hw'
                subst hw''
                go_wp2
                go_ret
                exact ⟨ret_b HN.out.symm, HB.out.trans (hwq.mono HB.out.size)⟩
              | true =>
                have HN : Hid (bc = b) := Lib.hid (Bool.eq_iff_iff.2 ⟨fun h => HBB.out.2 ⟨rfl, rfl, rfl, rfl, rfl, HK.out.1 rfl, HV.out.1 rfl, HKC.out.1 h⟩, fun h => HKC.out.2 (HBB.out.1 h).cs⟩)
                go_enter Try.func12, Try.ntmps12
                go_wp2
                rw [← HW1.out]
                refine wp_region_later (by kernel_rfl) (by kernel_rfl) ?_
                repeat (quiet_step ((first | (go_at_call 50; (with_reducible exact later_of (HF1.out _))) | (go_at_call 50; (with_reducible exact later_of (HF2.out _))) | (go_at_call 51; (with_reducible exact later_of (HE1.out _ (Later.h _)))) | (go_at_call 52; (with_reducible exact later_of (HE2.out _ (Later.h _)))) | (go_at_call 53; (with_reducible exact later_of (HE3.out _ (Later.h _)))))))
                refine wpQuiet_nil ?_
                intro _ hw'
                obtain ⟨⟨wq, hwq⟩, hw''⟩ := hw'
                subst hw''
                go_wp2
                go_ret
                exact ⟨ret_b HN.out, HB.out.trans (hwq.mono HB.out.size)⟩
end Go.Proofs.Ytlcnnnljdffbmaa
