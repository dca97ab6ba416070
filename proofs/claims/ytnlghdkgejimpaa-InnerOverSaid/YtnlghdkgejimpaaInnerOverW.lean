/- The law InnerOver, walked: a node over two others is the document's, or there is none. No condition. -/
import Derived.Test.YtnlghdkgejimpaaInnerLives
import Derived.Test.YtnlghdkgejimpaaNodeRSame
namespace Go.Proofs.Ytnlghdkgejimpaa
open Go.RowKit

theorem rsame_eq12 (n : Nod) (ak av ac ak2 av2 ac2 : Option Addr) (ck cv cc ck2 cv2 cc2 : Nat) (w : World) (hN : NdAt w ak av ac n.ks.length ck n.vs.length cv n.cs.length cc n.ks n.vs n.cs) (hM : NdAt w ak2 av2 ac2 n.ks.length ck2 n.vs.length cv2 n.cs.length cc2 n.ks n.vs n.cs) :
    Calls Try.prog 16 #[.agg #[.int .i64 n.lv, .string n.lo, .string n.hi, .bool n.la, .int .i64 n.nx, .slice ak n.ks.length ck, .slice av n.vs.length cv, .slice ac n.cs.length cc], .agg #[.int .i64 n.lv, .string n.lo, .string n.hi, .bool n.la, .int .i64 n.nx, .slice ak2 n.ks.length ck2, .slice av2 n.vs.length cv2, .slice ac2 n.cs.length cc2]] w fun e w' => e = .returned (.bool true) ∧ Below w.heap.size w w' :=
  rnsame_of n.lv n.nx n.lo n.hi n.la ak av ac n.ks.length ck n.vs.length cv n.cs.length cc n.lv n.nx n.lo n.hi n.la ak2 av2 ac2 n.ks.length ck2 n.vs.length cv2 n.cs.length cc2 n.ks n.vs n.cs n.ks n.vs n.cs true w hN hM ⟨fun _ => ⟨rfl, rfl, rfl, rfl, rfl, rfl, rfl, rfl⟩, fun _ => rfl⟩

set_option maxHeartbeats 8000000 in
set_option maxRecDepth 100000 in
theorem innerOver_any (level left : Int) (low : ByteArray) (right : Int) (w : World) :
    Calls Try.prog 7 #[.int .i64 level, .int .i64 left, .string low, .int .i64 right] w fun e w' => e = .returned (.bool true) ∧ Below w.heap.size w w' := by
  have HLV := Lib.hid lives12_any
  by_cases hk : 100 < low.size
  case pos =>
    have hk2 : (100 : Int) < low.size := by omega
    go_enter Try.func7, Try.ntmps7
    go_wp2_with fail
    refine (HLV.out _).mono ?_
    rintro e wl ⟨rfl, hbl⟩
    have HBL := Lib.hid hbl
    clear hbl
    go_wp2
    go_ret
    exact ⟨rfl, HBL.out⟩
  case neg =>
    have hk2 : (low.size : Int) ≤ 100 := by omega
    have hks : low.size ≤ 140737488355328 := by omega
    obtain ⟨b, hb⟩ := bool_or ((Nod.one level left).PostP low right 64)
    have HOV := Lib.hid (fun W => over_of level left right low b W hks hb)
    have HRO := Lib.hid (fun W => rover_of level left right low b W hks (hb.trans over_iff))
    rw [over_or hb] at HOV
    have HSE := Lib.hid rsame_eq12
    generalize Nod.or b (Nod.over level left low right) = pw at HOV HRO
    clear hb hks hk
    go_enter Try.func7, Try.ntmps7
    go_wp2_with fail
    refine (HOV.out _).mono ?_
    rintro e w2 ⟨ak2, av2, ac2, ck2, cv2, cc2, rfl, hnd, hb, _⟩
    have hbx := boxed_below w2 (.cells #[.int .i64 pw.lv, .string pw.lo, .string pw.hi, .bool pw.la, .int .i64 pw.nx, .slice ak2 pw.ks.length ck2, .slice av2 pw.vs.length cv2, .slice ac2 pw.cs.length cc2] 26)
    have HN2 := Lib.hid (NB.new w2 #[.int .i64 pw.lv, .string pw.lo, .string pw.hi, .bool pw.la, .int .i64 pw.nx, .slice ak2 pw.ks.length ck2, .slice av2 pw.vs.length cv2, .slice ac2 pw.cs.length cc2])
    have HB2 := Lib.hid (hb.trans (hbx.mono hb.size))
    have HD2 := Lib.hid (hnd.keep hbx)
    clear hnd hb hbx
    go_wp2_with fail
    refine (HRO.out _).mono ?_
    rintro e w3 ⟨ak3, av3, ac3, ck3, cv3, cc3, rfl, hnd, hb, _⟩
    have hbx := boxed_below w3 (.cells #[.int .i64 pw.lv, .string pw.lo, .string pw.hi, .bool pw.la, .int .i64 pw.nx, .slice ak3 pw.ks.length ck3, .slice av3 pw.vs.length cv3, .slice ac3 pw.cs.length cc3] 26)
    have HN3 := Lib.hid (NB.new w3 #[.int .i64 pw.lv, .string pw.lo, .string pw.hi, .bool pw.la, .int .i64 pw.nx, .slice ak3 pw.ks.length ck3, .slice av3 pw.vs.length cv3, .slice ac3 pw.cs.length cc3])
    have HB23 := Lib.hid (hb.trans (hbx.mono hb.size))
    have HB3 := Lib.hid (HB2.out.trans (HB23.out.mono HB2.out.size))
    have HD3 := Lib.hid (hnd.keep hbx)
    have HD2' := Lib.hid (HD2.out.keep HB23.out)
    clear hnd hb hbx
    obtain ⟨q0, q1, q2, q3, q4, q5, q6, q7⟩ := (HN2.out.below HB23.out).cells
    obtain ⟨t0, t1, t2, t3, t4, t5, t6, t7⟩ := HN3.out.cells
    go_wp2_with fail
    refine (HSE.out pw ak2 av2 ac2 ak3 av3 ac3 ck2 cv2 cc2 ck3 cv3 cc3 _ HD2'.out HD3.out).mono ?_
    rintro e w4 ⟨rfl, hb4⟩
    have HB4 := Lib.hid (HB3.out.trans (hb4.mono HB3.out.size))
    clear hb4 q0 q1 q2 q3 q4 q5 q6 q7 t0 t1 t2 t3 t4 t5 t6 t7
    go_wp2_with fail
    refine (HLV.out _).mono ?_
    rintro e wl ⟨rfl, hbl⟩
    have HBL := Lib.hid (HB4.out.trans (hbl.mono HB4.out.size))
    clear hbl
    go_wp2
    go_ret
    exact ⟨rfl, HBL.out⟩
end Go.Proofs.Ytnlghdkgejimpaa
