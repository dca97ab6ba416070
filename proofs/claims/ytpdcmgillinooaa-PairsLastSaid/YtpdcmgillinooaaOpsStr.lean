/- sorted.Add, Cut, Set, Part, Join at string: what they answer, in new memory; nothing that was there has turned. Condition: rows of at most 2^38 elements. -/
import Derived.Test.YtpdcmgillinooaaLaidStr
import Derived.IntWalk
import Derived.Deep.RegionHeldLaw
import Derived.Deep.RegionWith
import Derived.Outline
namespace Go.Proofs.Ytpdcmgillinooaa
open Go.RowKit

theorem one_ofStr (xs : List Value) (h : ∀ u ∈ xs, u.oneCell' = true) (n : Nat) : (∀ u ∈ xs.take n, u.oneCell' = true) ∧ (∀ u ∈ xs.drop n, u.oneCell' = true) :=
  ⟨fun u hu => h u (List.mem_of_mem_take hu), fun u hu => h u (List.mem_of_mem_drop hu)⟩

/-- The rows' block and the new one's, where laid is called. -/
theorem laidStr_three (w : World) (x v1 v3 : Value) (xs1 xs3 : List Value) (h1 : Rd w v1 xs1) (h3 : Rd w v3 xs3) (o1 : ∀ u ∈ xs1, u.oneCell' = true) (o3 : ∀ u ∈ xs3, u.oneCell' = true) (ox : x.oneCell' = true) (hl : xs1.length + xs3.length ≤ 549755813888)
    (W : World) (k1 : W.heap[w.heap.size]? = some (.cells #[x] 9 (0, 0))) (k2 : W.heap[w.heap.size + 1]? = some (.cells #[v1, .slice (some ⟨w.heap.size, 0, none⟩) 1 1, v3] 49 (0, 0))) (hb : Below w.heap.size w W) :
    Calls Try.prog 44 #[.slice (some ⟨w.heap.size + 1, 0, none⟩) 3 3] W fun e w' => LaidStr W w' e (xs1 ++ x :: xs3) := by
  have := laidStr_any (w.heap.size + 1) 3 [(v1, xs1), (.slice (some ⟨w.heap.size, 0, none⟩) 1 1, [x]), (v3, xs3)] rfl W (fun i hi => ?_) (fun i hi => ?_) (by omega) (by simp; omega)
  · simpa using this
  · have hx : Whole W 9 w.heap.size [x] := k1
    have hc : ∀ j, W.cell? ⟨w.heap.size + 1, j, none⟩ = #[v1, .slice (some ⟨w.heap.size, 0, none⟩) 1 1, v3][j]? := fun j => by simp [World.cell?, k2]
    rcases i with _ | _ | _ | i
    · exact ⟨by rw [hc]; rfl, h1.keep hb⟩
    · exact ⟨by rw [hc]; rfl, hx.rd (by simp)⟩
    · exact ⟨by rw [hc]; rfl, h3.keep hb⟩
    · first | (simp at hi; done) | (simp at hi; omega)
  · rcases i with _ | _ | _ | i
    · exact o1
    · intro v hv
      have : v = x := by simpa using hv
      rw [this]; exact ox
    · exact o3
    · first | (simp at hi; done) | (simp at hi; omega)

theorem laidStr_two (w : World) (v1 v3 : Value) (xs1 xs3 : List Value) (h1 : Rd w v1 xs1) (h3 : Rd w v3 xs3) (o1 : ∀ u ∈ xs1, u.oneCell' = true) (o3 : ∀ u ∈ xs3, u.oneCell' = true) (hl : xs1.length + xs3.length ≤ 549755813888)
    (W : World) (k2 : W.heap[w.heap.size]? = some (.cells #[v1, v3] 49 (0, 0))) (hb : Below w.heap.size w W) :
    Calls Try.prog 44 #[.slice (some ⟨w.heap.size, 0, none⟩) 2 2] W fun e w' => LaidStr W w' e (xs1 ++ xs3) := by
  have := laidStr_any w.heap.size 2 [(v1, xs1), (v3, xs3)] rfl W (fun i hi => ?_) (fun i hi => ?_) (by omega) (by simp; omega)
  · simpa using this
  · have hc : ∀ j, W.cell? ⟨w.heap.size, j, none⟩ = #[v1, v3][j]? := fun j => by simp [World.cell?, k2]
    rcases i with _ | _ | i
    · exact ⟨by rw [hc]; rfl, h1.keep hb⟩
    · exact ⟨by rw [hc]; rfl, h3.keep hb⟩
    · first | (simp at hi; done) | (simp at hi; omega)
  · rcases i with _ | _ | i
    · exact o1
    · exact o3
    · first | (simp at hi; done) | (simp at hi; omega)

theorem laidStr_one (w : World) (v1 : Value) (xs1 : List Value) (h1 : Rd w v1 xs1) (o1 : ∀ u ∈ xs1, u.oneCell' = true) (hl : xs1.length ≤ 549755813888)
    (W : World) (k2 : W.heap[w.heap.size]? = some (.cells #[v1] 49 (0, 0))) (hb : Below w.heap.size w W) :
    Calls Try.prog 44 #[.slice (some ⟨w.heap.size, 0, none⟩) 1 1] W fun e w' => LaidStr W w' e xs1 := by
  have := laidStr_any w.heap.size 1 [(v1, xs1)] rfl W (fun i hi => ?_) (fun i hi => ?_) (by omega) (by simp; omega)
  · simpa using this
  · have hc : ∀ j, W.cell? ⟨w.heap.size, j, none⟩ = #[v1][j]? := fun j => by simp [World.cell?, k2]
    rcases i with _ | i
    · exact ⟨by rw [hc]; rfl, h1.keep hb⟩
    · first | (simp at hi; done) | (simp at hi; omega)
  · rcases i with _ | i
    · exact o1
    · first | (simp at hi; done) | (simp at hi; omega)

/-- Made of a world in which more lies. -/
theorem Made.backStr {w W w' : World} {v : Value} {xs : List Value} (h : Made W w' 9 v xs) (hb : Below w.heap.size w W) : Made w w' 9 v xs := by
  obtain ⟨g, h1, h2, h3, h4⟩ := h
  exact ⟨g, h1, Nat.le_trans hb.size h2, h3, hb.trans (h4.mono hb.size)⟩

/-- A part: from lo on, up to hi. -/
def MadePartStr (w w' : World) (e : Ending) (ys : List Value) : Prop := ∃ v, e = .returned v ∧ Made w w' 9 v ys

def GaveStr (w w' : World) (e : Ending) (xs : List Value) : Prop := ∃ v, e = .returned (.tuple #[v, .bool true]) ∧ Made w w' 9 v xs

set_option maxHeartbeats 2000000 in
set_option maxRecDepth 100000 in
theorem addStr_yes (ao : Option Addr) (n c at_ : Nat) (x : ByteArray) (xs : List Value) (w : World) (hr : Rd w (.slice ao n c) xs) (ho : ∀ u ∈ xs, u.oneCell' = true) (hn : n ≤ 274877906944) (hat : at_ ≤ n) :
    Calls Try.prog 26 #[.slice ao n c, .int .i64 at_, (.string x)] w fun e w' => GaveStr w w' e (xs.take at_ ++ (.string x) :: xs.drop at_) := by
  have hlen := hr.len
  have hc1 := hlen.2.1
  have hc2 := hlen.2.2
  have HX := Lib.hid hlen.1
  have HR := Lib.hid hr
  have HO := Lib.hid ho
  clear hlen hr ho
  have HL : Hid (∀ ao2, (at_ < n → ao2 = ao.map fun x => x.add at_) → ∀ (W : World), W.heap[w.heap.size]? = some (.cells #[(.string x)] 9 (0, 0)) → W.heap[w.heap.size + 1]? = some (.cells #[.slice ao at_ c, .slice (some ⟨w.heap.size, 0, none⟩) 1 1, .slice ao2 (n - at_) (c - at_)] 49 (0, 0)) → Below w.heap.size w W →
      Calls Try.prog 44 #[.slice (some ⟨w.heap.size + 1, 0, none⟩) 3 3] W fun e w' => LaidStr W w' e (xs.take at_ ++ (.string x) :: xs.drop at_)) := Lib.hid (fun ao2 h2 W k1 k2 hb =>
    laidStr_three w _ _ _ _ _ (HR.out.take at_ hat) (HR.out.drop at_ hat ao2 h2) (one_ofStr xs HO.out at_).1 (one_ofStr xs HO.out at_).2 rfl (by have := HX.out; rw [List.length_take, List.length_drop]; omega) W k1 k2 hb)
  by_cases hca : c = at_
  · obtain rfl : c = at_ := hca
    obtain rfl : n = c := by omega
    have hw := two_alloc w (.cells #[(.string x)] 9) (.cells #[.slice ao n n, .slice (some ⟨w.heap.size, 0, none⟩) 1 1, .slice ao 0 0] 49)
    have hcl := HL.out ao (fun h => absurd h (Nat.lt_irrefl _)) _ hw.1 (by rw [Nat.sub_self]; exact hw.2.1) hw.2.2
    have HCL := Lib.hid hcl
    have HB := Lib.hid hw.2.2
    clear hw hcl
    go_enter Try.func26, Try.ntmps26
    go_wp2
    go_region_held_law (fun _ => True) (trivial) (first | (go_at_call 44; refine HCL.out.mono ?_; rintro e w3 ⟨v, rfl, hm⟩))
    go_wp2
    all_goals first | (exfalso; omega) | (go_ret2; exact ⟨v, rfl, hm.backStr HB.out⟩)
  · have hlt : at_ < c := by omega
    have hw := two_alloc w (.cells #[(.string x)] 9) (.cells #[.slice ao at_ c, .slice (some ⟨w.heap.size, 0, none⟩) 1 1, .slice (Option.map (fun x => x.add at_) ao) (n - at_) (c - at_)] 49)
    have hcl := HL.out _ (fun _ => rfl) _ hw.1 hw.2.1 hw.2.2
    have HCL := Lib.hid hcl
    have HB := Lib.hid hw.2.2
    clear hw hcl
    go_enter Try.func26, Try.ntmps26
    go_wp2
    go_region_held_law (fun _ => True) (trivial) (first | (go_at_call 44; refine HCL.out.mono ?_; rintro e w3 ⟨v, rfl, hm⟩))
    go_wp2
    all_goals first | (exfalso; omega) | (go_ret2; exact ⟨v, rfl, hm.backStr HB.out⟩)

set_option maxHeartbeats 1000000 in
theorem addStr_no (ao : Option Addr) (n c : Nat) (at_ : Int) (x : ByteArray) (w : World) (hn : n ≤ 274877906944) (hat : at_ < 0 ∨ (n : Int) < at_) :
    Calls Try.prog 26 #[.slice ao n c, .int .i64 at_, (.string x)] w fun e w' => e = .returned (.tuple #[.slice none 0 0, .bool false]) ∧ w' = w := by
  rcases hat with h | h
  all_goals
    go_enter Try.func26, Try.ntmps26
    go_wp2
    all_goals first | (exfalso; omega) | (go_ret2; exact ⟨rfl, rfl⟩)

set_option maxHeartbeats 1000000 in
theorem cutStr_no (ao : Option Addr) (n c : Nat) (at_ : Int) (w : World) (hn : n ≤ 274877906944) (hat : at_ < 0 ∨ (n : Int) ≤ at_) :
    Calls Try.prog 28 #[.slice ao n c, .int .i64 at_] w fun e w' => e = .returned (.tuple #[.slice none 0 0, .bool false]) ∧ w' = w := by
  rcases hat with h | h
  all_goals
    go_enter Try.func28, Try.ntmps28
    go_wp2
    all_goals first | (exfalso; omega) | (go_ret2; exact ⟨rfl, rfl⟩)

set_option maxHeartbeats 2000000 in
set_option maxRecDepth 100000 in
theorem cutStr_yes (ao : Option Addr) (n c at_ : Nat) (xs : List Value) (w : World) (hr : Rd w (.slice ao n c) xs) (ho : ∀ u ∈ xs, u.oneCell' = true) (hn : n ≤ 274877906944) (hat : at_ < n) :
    Calls Try.prog 28 #[.slice ao n c, .int .i64 at_] w fun e w' => GaveStr w w' e (xs.take at_ ++ xs.drop (at_ + 1)) := by
  have hlen := hr.len
  have hc1 := hlen.2.1
  have hc2 := hlen.2.2
  have HX := Lib.hid hlen.1
  have HR := Lib.hid hr
  have HO := Lib.hid ho
  clear hlen hr ho
  have HL : Hid (∀ ao2, (at_ + 1 < n → ao2 = ao.map fun x => x.add (at_ + 1)) → ∀ (W : World), W.heap[w.heap.size]? = some (.cells #[.slice ao at_ c, .slice ao2 (n - (at_ + 1)) (c - (at_ + 1))] 49 (0, 0)) → Below w.heap.size w W →
      Calls Try.prog 44 #[.slice (some ⟨w.heap.size, 0, none⟩) 2 2] W fun e w' => LaidStr W w' e (xs.take at_ ++ xs.drop (at_ + 1))) := Lib.hid (fun ao2 h2 W k2 hb =>
    laidStr_two w _ _ _ _ (HR.out.take at_ (by omega)) (HR.out.drop (at_ + 1) (by omega) ao2 h2) (one_ofStr xs HO.out at_).1 (one_ofStr xs HO.out (at_ + 1)).2 (by have := HX.out; rw [List.length_take, List.length_drop]; omega) W k2 hb)
  have s1 : IntKind.i64.wrap ((at_ : Int) + 1) = (at_ : Int) + 1 := IntWalk.i64_in _ (by omega)
  have s2 : (0 : Int) ≤ (at_ : Int) + 1 := by omega
  have s3 : ((at_ : Int) + 1).toNat = at_ + 1 := by omega
  by_cases hca : c = at_ + 1
  · obtain rfl : n = c := by omega
    have hw := one_alloc w (.cells #[.slice ao at_ n, .slice ao 0 0] 49)
    have hcl := HL.out ao (fun h => absurd h (by omega)) (w.alloc (.cells #[.slice ao at_ n, .slice ao 0 0] 49)).drew (by rw [show n - (at_ + 1) = 0 by omega]; exact hw.1) hw.2.drew
    have HCL := Lib.hid hcl
    have HB := Lib.hid hw.2.drew
    clear hw hcl
    subst hca
    go_enter Try.func28, Try.ntmps28
    go_wp2
    go_region_held_law (fun _ => True) (trivial) (first | (go_at_call 44; refine HCL.out.mono ?_; rintro e w3 ⟨v, rfl, hm⟩))
    go_wp2
    all_goals first | (exfalso; omega) | (go_ret2; exact ⟨v, rfl, hm.backStr HB.out⟩)
  · have hlt : at_ + 1 < c := by omega
    have hw := one_alloc w (.cells #[.slice ao at_ c, .slice (Option.map (fun x => x.add (at_ + 1)) ao) (n - (at_ + 1)) (c - (at_ + 1))] 49)
    have hcl := HL.out _ (fun _ => rfl) (w.alloc (.cells #[.slice ao at_ c, .slice (Option.map (fun x => x.add (at_ + 1)) ao) (n - (at_ + 1)) (c - (at_ + 1))] 49)).drew hw.1 hw.2.drew
    have HCL := Lib.hid hcl
    have HB := Lib.hid hw.2.drew
    clear hw hcl
    go_enter Try.func28, Try.ntmps28
    go_wp2
    go_region_held_law (fun _ => True) (trivial) (first | (go_at_call 44; refine HCL.out.mono ?_; rintro e w3 ⟨v, rfl, hm⟩))
    go_wp2
    all_goals first | (exfalso; omega) | (go_ret2; exact ⟨v, rfl, hm.backStr HB.out⟩)

set_option maxHeartbeats 2000000 in
theorem partStr_yes (ao : Option Addr) (n c lo hi : Nat) (from_ to_ : Int) (xs : List Value) (w : World) (hr : Rd w (.slice ao n c) xs) (ho : ∀ u ∈ xs, u.oneCell' = true) (hn : n ≤ 274877906944) (h0 : lo < hi) (h1 : hi ≤ n)
    (hf : from_ = lo ∨ (from_ < 0 ∧ lo = 0)) (ht : to_ = hi ∨ ((n : Int) < to_ ∧ hi = n)) :
    Calls Try.prog 35 #[.slice ao n c, .int .i64 from_, .int .i64 to_] w fun e w' => MadePartStr w w' e ((xs.take hi).drop lo) := by
  have hlen := hr.len
  have hc1 := hlen.2.1
  have hc2 := hlen.2.2
  have hrd := (hr.take hi h1).drop lo (by omega) (ao.map fun x => x.add lo) (fun _ => rfl)
  have hrd0 : lo = 0 → Rd w (.slice ao (hi - lo) (c - lo)) ((xs.take hi).drop lo) := fun e => by
    subst e
    simpa using hr.take hi h1
  have hl : ((xs.take hi).drop lo).length ≤ 549755813888 := by rw [List.length_drop, List.length_take, hlen.1]; omega
  have hone : ∀ u ∈ (xs.take hi).drop lo, u.oneCell' = true := fun u hu => ho u (List.mem_of_mem_take (List.mem_of_mem_drop hu))
  generalize (xs.take hi).drop lo = ys at *
  have HL := Lib.hid (fun v1 (h : Rd w v1 ys) => laidStr_one w v1 ys h hone hl _ (one_alloc w (.cells #[v1] 49)).1 (one_alloc w (.cells #[v1] 49)).2)
  have HR := Lib.hid hrd
  have HR0 := Lib.hid hrd0
  have hlc : lo < c := by omega
  have hhc : hi ≤ c := by omega
  clear hlen hr ho hrd hrd0 hl hone
  rcases hf with rfl | ⟨hf, rfl⟩
  · rcases ht with rfl | ⟨ht, rfl⟩
    all_goals
      go_enter Try.func35, Try.ntmps35
      go_wp2_with fail
      all_goals first | (exfalso; omega) | skip
      all_goals
        refine (HL.out _ HR.out).mono ?_
        rintro e w3 ⟨v, rfl, hm⟩
        go_wp2
        go_ret
        exact ⟨v, rfl, hm.backStr (one_alloc _ _).2⟩
  · have HR1 := Lib.hid (HR0.out rfl)
    rcases ht with rfl | ⟨ht, rfl⟩
    all_goals
      go_enter Try.func35, Try.ntmps35
      go_wp2_with fail
      all_goals first | (exfalso; omega) | skip
      all_goals
        refine (HL.out _ HR1.out).mono ?_
        rintro e w3 ⟨v, rfl, hm⟩
        go_wp2
        go_ret
        exact ⟨v, rfl, hm.backStr (one_alloc _ _).2⟩

set_option maxHeartbeats 2000000 in
theorem partStr_no (ao : Option Addr) (n c : Nat) (from_ to_ : Int) (w : World) (hn : n ≤ 274877906944) (h : to_ ≤ from_ ∨ to_ ≤ 0 ∨ (n : Int) ≤ from_ ∨ n = 0) :
    Calls Try.prog 35 #[.slice ao n c, .int .i64 from_, .int .i64 to_] w fun e w' => e = .returned (.slice none 0 0) ∧ w' = w := by
  by_cases hf : from_ < 0
  · by_cases ht : (n : Int) < to_
    all_goals
      go_enter Try.func35, Try.ntmps35
      go_wp2_with fail
      all_goals first | (exfalso; omega) | (go_ret; exact ⟨rfl, rfl⟩)
  · by_cases ht : (n : Int) < to_
    all_goals
      go_enter Try.func35, Try.ntmps35
      go_wp2_with fail
      all_goals first | (exfalso; omega) | (go_ret; exact ⟨rfl, rfl⟩)

/-- What Part tells: a new row, or nothing. -/
def PartGivesStr (w w' : World) (e : Ending) (ys : List Value) : Prop := ∃ v, e = .returned v ∧ (Made w w' 9 v ys ∨ (v = .slice none 0 0 ∧ ys = [] ∧ w' = w))

theorem partStr_any (v : Value) (from_ to_ : Int) (xs : List Value) (w : World) (hr : Rd w v xs) (ho : ∀ u ∈ xs, u.oneCell' = true) (hn : xs.length ≤ 274877906944) :
    Calls Try.prog 35 #[v, .int .i64 from_, .int .i64 to_] w fun e w' => PartGivesStr w w' e ((xs.take (min to_ xs.length).toNat).drop (max from_ 0).toNat) := by
  obtain ⟨ao, c, rfl⟩ := hr.open
  by_cases h : (max from_ 0).toNat < (min to_ (xs.length : Int)).toNat
  · refine (partStr_yes ao xs.length c (max from_ 0).toNat (min to_ (xs.length : Int)).toNat from_ to_ xs w hr ho hn h (by omega) (by omega) (by omega)).mono ?_
    rintro e w' ⟨v, rfl, hm⟩
    exact ⟨v, rfl, Or.inl hm⟩
  · refine (partStr_no ao xs.length c from_ to_ w hn (by omega)).mono ?_
    rintro e w' ⟨rfl, rfl⟩
    refine ⟨_, rfl, Or.inr ⟨rfl, ?_, rfl⟩⟩
    apply List.drop_eq_nil_of_le
    rw [List.length_take]
    omega
end Go.Proofs.Ytpdcmgillinooaa
