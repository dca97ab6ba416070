/- inner's small calls: isInner, the document's Inner, isLater, frameOf, mayBe and its closure. Condition: sizes that fit. -/
import Derived.Test.YtjojfkddgdpnlaaNods
import Derived.Test.YtjojfkddgdpnlaaNodeSameOps
import Derived.Test.YtjojfkddgdpnlaaNodeCloneAt
import Derived.Deep.DeepCutAuto
namespace Go.Proofs.Ytjojfkddgdpnlaa
open Go.RowKit

def Nod.Inner (n : Nod) : Prop := 0 < n.lv ∧ n.Sound 64

set_option maxHeartbeats 1000000 in
theorem isInner_of (lv nx : Int) (lo hi : ByteArray) (la : Bool) (ak av ac : Option Addr) (nk ck nv cv nc cc : Nat) (ks : List ByteArray) (vs : List Nat) (cs : List Int) (b : Bool) (w : World) (hN : NdAt w ak av ac nk ck nv cv nc cc ks vs cs) (hf : Fit lo hi ks nk nv nc) (hb : b = true ↔ 0 < lv ∧ SoundP lv nx lo hi la nk nv nc ks cs 64) :
    Calls Try.prog 60 #[.agg #[.int .i64 lv, .string lo, .string hi, .bool la, .int .i64 nx, .slice ak nk ck, .slice av nv cv, .slice ac nc cc]] w fun e w' => e = .returned (.bool b) ∧ Below w.heap.size w w' := by
  have HB := Lib.hid (boxed_below w (.cells #[.int .i64 lv, .string lo, .string hi, .bool la, .int .i64 nx, .slice ak nk ck, .slice av nv cv, .slice ac nc cc] 26))
  have HNB := Lib.hid (NB.new w #[.int .i64 lv, .string lo, .string hi, .bool la, .int .i64 nx, .slice ak nk ck, .slice av nv cv, .slice ac nc cc])
  obtain ⟨q0, q1, q2, q3, q4, q5, q6, q7⟩ := HNB.out.cells
  by_cases h0 : 0 < lv
  · have HC := Lib.hid (fun W (h : Below w.heap.size w W) => check_of lv nx lo hi la ak av ac nk ck nv cv nc cc ks vs cs 64 b W (hN.keep h) hf ⟨fun h => ⟨by omega, (hb.1 h).2⟩, fun h => hb.2 ⟨h0, h.2⟩⟩)
    clear hN hf hb
    go_enter Try.func60, Try.ntmps60
    go_wp2_with fail
    refine (HC.out _ HB.out).mono ?_
    rintro e w2 ⟨c, rfl, hc, _, hb2⟩
    have HB2 := Lib.hid (HB.out.trans (hb2.mono HB.out.size))
    clear hb2
    go_wp2
    go_ret
    exact ⟨rfl, HB2.out⟩
  · have h1 : b = false := bool_no hb (fun h => h0 h.1)
    subst h1
    clear hN hf hb
    go_enter Try.func60, Try.ntmps60
    go_wp2
    go_ret
    exact ⟨rfl, HB.out⟩

set_option maxHeartbeats 1000000 in
theorem rinner_of (lv nx : Int) (lo hi : ByteArray) (la : Bool) (ak av ac : Option Addr) (nk ck nv cv nc cc : Nat) (ks : List ByteArray) (vs : List Nat) (cs : List Int) (b : Bool) (w : World) (hN : NdAt w ak av ac nk ck nv cv nc cc ks vs cs) (hf : Fit lo hi ks nk nv nc) (hb : b = true ↔ 0 < lv ∧ SoundP lv nx lo hi la nk nv nc ks cs 64) :
    Calls Try.prog 65 #[.agg #[.int .i64 lv, .string lo, .string hi, .bool la, .int .i64 nx, .slice ak nk ck, .slice av nv cv, .slice ac nc cc]] w fun e w' => e = .returned (.bool b) ∧ Below w.heap.size w w' := by
  have HB := Lib.hid (boxed_below w (.cells #[.int .i64 lv, .string lo, .string hi, .bool la, .int .i64 nx, .slice ak nk ck, .slice av nv cv, .slice ac nc cc] 26))
  have HNB := Lib.hid (NB.new w #[.int .i64 lv, .string lo, .string hi, .bool la, .int .i64 nx, .slice ak nk ck, .slice av nv cv, .slice ac nc cc])
  obtain ⟨q0, q1, q2, q3, q4, q5, q6, q7⟩ := HNB.out.cells
  by_cases h0 : 0 < lv
  · have HC := Lib.hid (fun W (h : Below w.heap.size w W) => rsound_of lv nx lo hi la ak av ac nk ck nv cv nc cc ks vs cs 64 b W (hN.keep h) hf ⟨fun h => (hb.1 h).2, fun h => hb.2 ⟨h0, h⟩⟩)
    clear hN hf hb
    go_enter Try.func65, Try.ntmps65
    go_wp2_with fail
    refine (HC.out _ HB.out).mono ?_
    rintro e w2 ⟨rfl, hb2⟩
    have HB2 := Lib.hid (HB.out.trans (hb2.mono HB.out.size))
    clear hb2
    go_wp2
    go_ret
    exact ⟨rfl, HB2.out⟩
  · have h1 : b = false := bool_no hb (fun h => h0 h.1)
    subst h1
    clear hN hf hb
    go_enter Try.func65, Try.ntmps65
    go_wp2
    go_ret
    exact ⟨rfl, HB.out⟩

theorem isLater_any (lv nx : Int) (lo hi : ByteArray) (la : Bool) (ak av ac : Option Addr) (nk ck nv cv nc cc : Nat) (i : Int) (w : World) :
    Calls Try.prog 70 #[.agg #[.int .i64 lv, .string lo, .string hi, .bool la, .int .i64 nx, .slice ak nk ck, .slice av nv cv, .slice ac nc cc], .int .i64 i] w fun e w' => e = .returned (.bool (decide (0 < i) && decide (i < (nk : Int)))) ∧ Below w.heap.size w w' := by
  have HB := Lib.hid (boxed_below w (.cells #[.int .i64 lv, .string lo, .string hi, .bool la, .int .i64 nx, .slice ak nk ck, .slice av nv cv, .slice ac nc cc] 26))
  have HNB := Lib.hid (NB.new w #[.int .i64 lv, .string lo, .string hi, .bool la, .int .i64 nx, .slice ak nk ck, .slice av nv cv, .slice ac nc cc])
  obtain ⟨q0, q1, q2, q3, q4, q5, q6, q7⟩ := HNB.out.cells
  by_cases h : 0 < i
  · rw [decide_eq_true h]
    go_enter Try.func70, Try.ntmps70
    go_wp2
    go_ret
    exact ⟨rfl, HB.out⟩
  · rw [decide_eq_false h]
    have h2 : i ≤ 0 := by omega
    go_enter Try.func70, Try.ntmps70
    go_wp2
    go_ret
    exact ⟨rfl, HB.out⟩

theorem iframe_any (lv nx : Int) (lo hi : ByteArray) (la : Bool) (ak av ac : Option Addr) (nk ck nv cv nc cc : Nat) (w : World) :
    Calls Try.prog 113 #[.agg #[.int .i64 lv, .string lo, .string hi, .bool la, .int .i64 nx, .slice ak nk ck, .slice av nv cv, .slice ac nc cc]] w fun e w' => e = .returned (.agg #[.int .i64 lv, .int .i64 nx, .string lo, .string hi, .bool la]) ∧ Below w.heap.size w w' := by
  have HB := Lib.hid (boxed_below w (.cells #[.int .i64 lv, .string lo, .string hi, .bool la, .int .i64 nx, .slice ak nk ck, .slice av nv cv, .slice ac nc cc] 26))
  have HNB := Lib.hid (NB.new w #[.int .i64 lv, .string lo, .string hi, .bool la, .int .i64 nx, .slice ak nk ck, .slice av nv cv, .slice ac nc cc])
  obtain ⟨q0, q1, q2, q3, q4, q5, q6, q7⟩ := HNB.out.cells
  go_enter Try.func113, Try.ntmps113
  go_wp2
  refine bodyPost_ret (v := .agg #[.int .i64 lv, .int .i64 nx, .string lo, .string hi, .bool la]) (by simp [results, Try.results113, go_sem, *]) rfl ⟨rfl, ?_⟩
  exact HB.out.alloc HB.out.size _
end Go.Proofs.Ytjojfkddgdpnlaa
