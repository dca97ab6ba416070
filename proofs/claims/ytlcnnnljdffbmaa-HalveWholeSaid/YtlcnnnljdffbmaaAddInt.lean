/- sorted.Add, Cut at int, beside Part: what they answer, in new memory; nothing that was there has turned. Condition: rows of at most 2^38 elements. -/
import Derived.Test.YtlcnnnljdffbmaaPartInt
import Derived.Deep.RegionHeldLaw
import Derived.Deep.RegionWith
namespace Go.Proofs.Ytlcnnnljdffbmaa
open Go.RowKit

theorem one_ofInt (xs : List Value) (h : ∀ u ∈ xs, u.oneCell' = true) (n : Nat) : (∀ u ∈ xs.take n, u.oneCell' = true) ∧ (∀ u ∈ xs.drop n, u.oneCell' = true) :=
  ⟨fun u hu => h u (List.mem_of_mem_take hu), fun u hu => h u (List.mem_of_mem_drop hu)⟩

/-- The rows' block and the new one's, where laid is called. -/
theorem laidInt_three (w : World) (x v1 v3 : Value) (xs1 xs3 : List Value) (h1 : Rd w v1 xs1) (h3 : Rd w v3 xs3) (o1 : ∀ u ∈ xs1, u.oneCell' = true) (o3 : ∀ u ∈ xs3, u.oneCell' = true) (ox : x.oneCell' = true) (hl : xs1.length + xs3.length ≤ 549755813888)
    (W : World) (k1 : W.heap[w.heap.size]? = some (.cells #[x] 3 (0, 0))) (k2 : W.heap[w.heap.size + 1]? = some (.cells #[v1, .slice (some ⟨w.heap.size, 0, none⟩) 1 1, v3] 24 (0, 0))) (hb : Below w.heap.size w W) :
    Calls Try.prog 102 #[.slice (some ⟨w.heap.size + 1, 0, none⟩) 3 3] W fun e w' => LaidInt W w' e (xs1 ++ x :: xs3) := by
  have := laidInt_any (w.heap.size + 1) 3 [(v1, xs1), (.slice (some ⟨w.heap.size, 0, none⟩) 1 1, [x]), (v3, xs3)] rfl W (fun i hi => ?_) (fun i hi => ?_) (by omega) (by simp; omega)
  · simpa using this
  · have hx : Whole W 3 w.heap.size [x] := k1
    have hc : ∀ j, W.cell? ⟨w.heap.size + 1, j, none⟩ = #[v1, .slice (some ⟨w.heap.size, 0, none⟩) 1 1, v3][j]? := fun j => by simp [World.cell?, k2]
    rcases i with _ | _ | _ | i
    · exact ⟨by rw [hc]; rfl, h1.keep hb⟩
    · exact ⟨by rw [hc]; rfl, hx.rd (by simp)⟩
    · exact ⟨by rw [hc]; rfl, h3.keep hb⟩
    · first | (simp at hi; done) | (simp at hi; omega)
  · rcases i with _ | _ | _ | i
    · exact o1
    · intro v hv
      have : v = x := by simpa using hv
      rw [this]; exact ox
    · exact o3
    · first | (simp at hi; done) | (simp at hi; omega)

theorem laidInt_two (w : World) (v1 v3 : Value) (xs1 xs3 : List Value) (h1 : Rd w v1 xs1) (h3 : Rd w v3 xs3) (o1 : ∀ u ∈ xs1, u.oneCell' = true) (o3 : ∀ u ∈ xs3, u.oneCell' = true) (hl : xs1.length + xs3.length ≤ 549755813888)
    (W : World) (k2 : W.heap[w.heap.size]? = some (.cells #[v1, v3] 24 (0, 0))) (hb : Below w.heap.size w W) :
    Calls Try.prog 102 #[.slice (some ⟨w.heap.size, 0, none⟩) 2 2] W fun e w' => LaidInt W w' e (xs1 ++ xs3) := by
  have := laidInt_any w.heap.size 2 [(v1, xs1), (v3, xs3)] rfl W (fun i hi => ?_) (fun i hi => ?_) (by omega) (by simp; omega)
  · simpa using this
  · have hc : ∀ j, W.cell? ⟨w.heap.size, j, none⟩ = #[v1, v3][j]? := fun j => by simp [World.cell?, k2]
    rcases i with _ | _ | i
    · exact ⟨by rw [hc]; rfl, h1.keep hb⟩
    · exact ⟨by rw [hc]; rfl, h3.keep hb⟩
    · first | (simp at hi; done) | (simp at hi; omega)
  · rcases i with _ | _ | i
    · exact o1
    · exact o3
    · first | (simp at hi; done) | (simp at hi; omega)

def GaveInt (w w' : World) (e : Ending) (xs : List Value) : Prop := ∃ v, e = .returned (.tuple #[v, .bool true]) ∧ Made w w' 3 v xs

set_option maxHeartbeats 2000000 in
set_option maxRecDepth 100000 in
theorem addInt_yes (ao : Option Addr) (n c at_ : Nat) (x : Int) (xs : List Value) (w : World) (hr : Rd w (.slice ao n c) xs) (ho : ∀ u ∈ xs, u.oneCell' = true) (hn : n ≤ 274877906944) (hat : at_ ≤ n) :
    Calls Try.prog 57 #[.slice ao n c, .int .i64 at_, (.int .i64 x)] w fun e w' => GaveInt w w' e (xs.take at_ ++ (.int .i64 x) :: xs.drop at_) := by
  have hlen := hr.len
  have hc1 := hlen.2.1
  have hc2 := hlen.2.2
  have HX := Lib.hid hlen.1
  have HR := Lib.hid hr
  have HO := Lib.hid ho
  clear hlen hr ho
  have HL : Hid (∀ ao2, (at_ < n → ao2 = ao.map fun x => x.add at_) → ∀ (W : World), W.heap[w.heap.size]? = some (.cells #[(.int .i64 x)] 3 (0, 0)) → W.heap[w.heap.size + 1]? = some (.cells #[.slice ao at_ c, .slice (some ⟨w.heap.size, 0, none⟩) 1 1, .slice ao2 (n - at_) (c - at_)] 24 (0, 0)) → Below w.heap.size w W →
      Calls Try.prog 102 #[.slice (some ⟨w.heap.size + 1, 0, none⟩) 3 3] W fun e w' => LaidInt W w' e (xs.take at_ ++ (.int .i64 x) :: xs.drop at_)) := Lib.hid (fun ao2 h2 W k1 k2 hb =>
    laidInt_three w _ _ _ _ _ (HR.out.take at_ hat) (HR.out.drop at_ hat ao2 h2) (one_ofInt xs HO.out at_).1 (one_ofInt xs HO.out at_).2 rfl (by have := HX.out; rw [List.length_take, List.length_drop]; omega) W k1 k2 hb)
  by_cases hca : c = at_
  · obtain rfl : c = at_ := hca
    obtain rfl : n = c := by omega
    have hw := two_alloc w (.cells #[(.int .i64 x)] 3) (.cells #[.slice ao n n, .slice (some ⟨w.heap.size, 0, none⟩) 1 1, .slice ao 0 0] 24)
    have hcl := HL.out ao (fun h => absurd h (Nat.lt_irrefl _)) _ hw.1 (by rw [Nat.sub_self]; exact hw.2.1) hw.2.2
    have HCL := Lib.hid hcl
    have HB := Lib.hid hw.2.2
    clear hw hcl
    go_enter Try.func57, Try.ntmps57
    go_wp2
    go_region_held_law (fun _ => True) (trivial) (first | (go_at_call 102; refine HCL.out.mono ?_; rintro e w3 ⟨v, rfl, hm⟩))
    go_wp2
    all_goals first | (exfalso; omega) | (go_ret2; exact ⟨v, rfl, hm.backInt HB.out⟩)
  · have hlt : at_ < c := by omega
    have hw := two_alloc w (.cells #[(.int .i64 x)] 3) (.cells #[.slice ao at_ c, .slice (some ⟨w.heap.size, 0, none⟩) 1 1, .slice (Option.map (fun x => x.add at_) ao) (n - at_) (c - at_)] 24)
    have hcl := HL.out _ (fun _ => rfl) _ hw.1 hw.2.1 hw.2.2
    have HCL := Lib.hid hcl
    have HB := Lib.hid hw.2.2
    clear hw hcl
    go_enter Try.func57, Try.ntmps57
    go_wp2
    go_region_held_law (fun _ => True) (trivial) (first | (go_at_call 102; refine HCL.out.mono ?_; rintro e w3 ⟨v, rfl, hm⟩))
    go_wp2
    all_goals first | (exfalso; omega) | (go_ret2; exact ⟨v, rfl, hm.backInt HB.out⟩)

set_option maxHeartbeats 1000000 in
theorem addInt_no (ao : Option Addr) (n c : Nat) (at_ : Int) (x : Int) (w : World) (hn : n ≤ 274877906944) (hat : at_ < 0 ∨ (n : Int) < at_) :
    Calls Try.prog 57 #[.slice ao n c, .int .i64 at_, (.int .i64 x)] w fun e w' => e = .returned (.tuple #[.slice none 0 0, .bool false]) ∧ w' = w := by
  rcases hat with h | h
  all_goals
    go_enter Try.func57, Try.ntmps57
    go_wp2
    all_goals first | (exfalso; omega) | (go_ret2; exact ⟨rfl, rfl⟩)

end Go.Proofs.Ytlcnnnljdffbmaa
