/- inner's small calls: isInner, the document's Inner, isLater, frameOf, mayBe and its closure. Condition: sizes that fit. -/
import Derived.Test.YtmkglaghnjnooaaNods
import Derived.Test.YtmkglaghnjnooaaNodeSameOps
import Derived.Test.YtmkglaghnjnooaaNodeCloneAt
import Derived.Deep.DeepCutAuto
namespace Go.Proofs.Ytmkglaghnjnooaa
open Go.RowKit

def Nod.Inner (n : Nod) : Prop := 0 < n.lv ∧ n.Sound 64

set_option maxHeartbeats 1000000 in
theorem rinner_of (lv nx : Int) (lo hi : ByteArray) (la : Bool) (ak av ac : Option Addr) (nk ck nv cv nc cc : Nat) (ks : List ByteArray) (vs : List Nat) (cs : List Int) (b : Bool) (w : World) (hN : NdAt w ak av ac nk ck nv cv nc cc ks vs cs) (hf : Fit lo hi ks nk nv nc) (hb : b = true ↔ 0 < lv ∧ SoundP lv nx lo hi la nk nv nc ks cs 64) :
    Calls Try.prog 64 #[.agg #[.int .i64 lv, .string lo, .string hi, .bool la, .int .i64 nx, .slice ak nk ck, .slice av nv cv, .slice ac nc cc]] w fun e w' => e = .returned (.bool b) ∧ Below w.heap.size w w' := by
  have HB := Lib.hid (boxed_below w (.cells #[.int .i64 lv, .string lo, .string hi, .bool la, .int .i64 nx, .slice ak nk ck, .slice av nv cv, .slice ac nc cc] 26))
  have HNB := Lib.hid (NB.new w #[.int .i64 lv, .string lo, .string hi, .bool la, .int .i64 nx, .slice ak nk ck, .slice av nv cv, .slice ac nc cc])
  obtain ⟨q0, q1, q2, q3, q4, q5, q6, q7⟩ := HNB.out.cells
  by_cases h0 : 0 < lv
  · have HC := Lib.hid (fun W (h : Below w.heap.size w W) => rsound_of lv nx lo hi la ak av ac nk ck nv cv nc cc ks vs cs 64 b W (hN.keep h) hf ⟨fun h => (hb.1 h).2, fun h => hb.2 ⟨h0, h⟩⟩)
    clear hN hf hb
    go_enter Try.func64, Try.ntmps64
    go_wp2_with fail
    refine (HC.out _ HB.out).mono ?_
    rintro e w2 ⟨rfl, hb2⟩
    have HB2 := Lib.hid (HB.out.trans (hb2.mono HB.out.size))
    clear hb2
    go_wp2
    go_ret
    exact ⟨rfl, HB2.out⟩
  · have h1 : b = false := bool_no hb (fun h => h0 h.1)
    subst h1
    clear hN hf hb
    go_enter Try.func64, Try.ntmps64
    go_wp2
    go_ret
    exact ⟨rfl, HB.out⟩

end Go.Proofs.Ytmkglaghnjnooaa
