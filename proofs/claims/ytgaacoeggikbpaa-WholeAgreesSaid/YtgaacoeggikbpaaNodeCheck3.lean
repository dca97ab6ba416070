/- node.Check. Condition: texts of at most 2^47 bytes, at most 2^38 keys. -/
import Derived.Test.YtgaacoeggikbpaaNodeCheck2
namespace Go.Proofs.Ytgaacoeggikbpaa
open Go.RowKit

theorem entries_any (lv nx : Int) (lo hi : ByteArray) (la : Bool) (ak av ac : Option Addr) (nk ck nv cv nc cc : Nat) (ks : List ByteArray) (vs : List Nat) (cs : List Int) (w : World) (hN : NdAt w ak av ac nk ck nv cv nc cc ks vs cs) :
    Calls Try.prog 39 #[.agg #[.int .i64 lv, .string lo, .string hi, .bool la, .int .i64 nx, .slice ak nk ck, .slice av nv cv, .slice ac nc cc]] w fun e w' => EveryGives w w' e (EntriesP lv lo nk nv nc ks cs) := by
  by_cases h : lv = 0
  · exact soundLeaf_any lv nx lo hi la ak av ac nk ck nv cv nc cc ks cs w hN.k h
  · exact soundInner_any lv nx lo hi la ak av ac nk ck nv cv nc cc ks vs cs w hN h

def CheckGives (w w' : World) (e : Ending) (p : Prop) : Prop := (e = .returned (.int .i64 0) ∧ p ∨ e = .returned (.int .i64 10) ∧ ¬ p) ∧ Below w.heap.size w w'

theorem check_arg (lv nx : Int) (lo hi : ByteArray) (la : Bool) (ak av ac : Option Addr) (nk ck nv cv nc cc : Nat) (fan : Int) (w : World) (hf : fan < 4 ∨ 64 < fan) :
    Calls Try.prog 22 #[.agg #[.int .i64 lv, .string lo, .string hi, .bool la, .int .i64 nx, .slice ak nk ck, .slice av nv cv, .slice ac nc cc], .int .i64 fan] w fun e w' => e = .returned (.int .i64 2) ∧ Below w.heap.size w w' := by
  have HB := Lib.hid (boxed_below w (.cells #[.int .i64 lv, .string lo, .string hi, .bool la, .int .i64 nx, .slice ak nk ck, .slice av nv cv, .slice ac nc cc] 38))
  have hc : fan < 4 ∨ (¬ fan < 4 ∧ 64 < fan) := by omega
  clear hf
  rcases hc with g1 | ⟨g1, g2⟩
  all_goals
    go_enter Try.func22, Try.ntmps22
    go_wp2
    go_ret
    exact ⟨rfl, HB.out⟩

set_option maxHeartbeats 4000000 in
set_option maxRecDepth 100000 in
theorem check_fan (lv nx : Int) (lo hi : ByteArray) (la : Bool) (ak av ac : Option Addr) (nk ck nv cv nc cc : Nat) (ks : List ByteArray) (vs : List Nat) (cs : List Int) (fan : Int) (hf : 4 ≤ fan ∧ fan ≤ 64) (w : World) (hN : NdAt w ak av ac nk ck nv cv nc cc ks vs cs) (hl : lo.size ≤ 140737488355328) (hh : hi.size ≤ 140737488355328) (hk : ∀ x ∈ ks, x.size ≤ 140737488355328) (hn : nk ≤ 274877906944) :
    Calls Try.prog 22 #[.agg #[.int .i64 lv, .string lo, .string hi, .bool la, .int .i64 nx, .slice ak nk ck, .slice av nv cv, .slice ac nc cc], .int .i64 fan] w fun e w' => CheckGives w w' e (SoundP lv nx lo hi la nk nv nc ks cs fan) := by
  have HB := Lib.hid (boxed_below w (.cells #[.int .i64 lv, .string lo, .string hi, .bool la, .int .i64 nx, .slice ak nk ck, .slice av nv cv, .slice ac nc cc] 38))
  have HNB := Lib.hid (NB.new w #[.int .i64 lv, .string lo, .string hi, .bool la, .int .i64 nx, .slice ak nk ck, .slice av nv cv, .slice ac nc cc])
  have HR := Lib.hid (fun W => soundRange_any lv nx lo hi la ak av ac nk ck nv cv nc cc W hl hh)
  have HK := Lib.hid (fun W (hb : Below w.heap.size w W) => soundKeys_any lv nx lo hi la ak av ac nk ck nv cv nc cc ks fan W (hN.k.keep hb) hl hh hk hn)
  have HE := Lib.hid (fun W (hb : Below w.heap.size w W) => entries_any lv nx lo hi la ak av ac nk ck nv cv nc cc ks vs cs W (hN.keep hb))
  obtain ⟨q0, q1, q2, q3, q4, q5, q6, q7⟩ := HNB.out.cells
  have f1 : ¬ fan < 4 := by omega
  have f2 : ¬ 64 < fan := by omega
  clear hN hl hh hk hn hf
  by_cases h1 : 0 ≤ lv
  · by_cases h2 : lv < 14
    · go_enter Try.func22, Try.ntmps22
      go_wp2_with fail
      refine (HR.out _).mono ?_
      rintro e w1 ⟨r1, rfl, hr1, hb1⟩
      have HP1 := Lib.hid hr1
      have HB1 := Lib.hid (HB.out.trans (hb1.mono HB.out.size))
      have HN1 := Lib.hid (HNB.out.below hb1)
      clear hr1 hb1 q0 q1 q2 q3 q4 q5 q6 q7
      cases r1 with
      | false =>
        have HN : Hid (¬ SoundP lv nx lo hi la nk nv nc ks cs fan) := Lib.hid (fun h => by have := HP1.out.2 h.range; cases this)
        go_wp2
        go_ret
        exact ⟨Or.inr ⟨rfl, HN.out⟩, HB1.out⟩
      | true =>
        obtain ⟨q0, q1, q2, q3, q4, q5, q6, q7⟩ := HN1.out.cells
        go_wp2_with fail
        refine (HK.out _ HB1.out).mono ?_
        rintro e w2 ⟨r2, rfl, hr2, hb2⟩
        have HP2 := Lib.hid hr2
        have HB2 := Lib.hid (HB1.out.trans (hb2.mono HB1.out.size))
        have HN2 := Lib.hid (HN1.out.below hb2)
        clear hr2 hb2 q0 q1 q2 q3 q4 q5 q6 q7
        cases r2 with
        | false =>
          have HN : Hid (¬ SoundP lv nx lo hi la nk nv nc ks cs fan) := Lib.hid (fun h => by have := HP2.out.2 h.keys; cases this)
          go_wp2
          go_ret
          exact ⟨Or.inr ⟨rfl, HN.out⟩, HB2.out⟩
        | true =>
          obtain ⟨q0, q1, q2, q3, q4, q5, q6, q7⟩ := HN2.out.cells
          go_wp2_with fail
          refine (HE.out _ HB2.out).mono ?_
          rintro e w3 ⟨r3, rfl, hr3, hb3⟩
          have HP3 := Lib.hid hr3
          have HB3 := Lib.hid (HB2.out.trans (hb3.mono HB2.out.size))
          clear hr3 hb3 q0 q1 q2 q3 q4 q5 q6 q7
          cases r3 with
          | false =>
            have HN : Hid (¬ SoundP lv nx lo hi la nk nv nc ks cs fan) := Lib.hid (fun h => by have := HP3.out.2 h.entries; cases this)
            go_wp2
            go_ret
            exact ⟨Or.inr ⟨rfl, HN.out⟩, HB3.out⟩
          | true =>
            have HN : Hid (SoundP lv nx lo hi la nk nv nc ks cs fan) := Lib.hid ⟨⟨h1, h2⟩, HP1.out.1 (by trivial), HP2.out.1 (by trivial), HP3.out.1 (by trivial)⟩
            go_wp2
            go_ret
            exact ⟨Or.inl ⟨rfl, HN.out⟩, HB3.out⟩
    · have HN : Hid (¬ SoundP lv nx lo hi la nk nv nc ks cs fan) := Lib.hid (fun h => h2 h.level.2)
      go_enter Try.func22, Try.ntmps22
      go_wp2
      go_ret
      exact ⟨Or.inr ⟨rfl, HN.out⟩, HB.out⟩
  · have HN : Hid (¬ SoundP lv nx lo hi la nk nv nc ks cs fan) := Lib.hid (fun h => h1 h.level.1)
    go_enter Try.func22, Try.ntmps22
    go_wp2
    go_ret
    exact ⟨Or.inr ⟨rfl, HN.out⟩, HB.out⟩
end Go.Proofs.Ytgaacoeggikbpaa
