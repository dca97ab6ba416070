/- sorted.Part at int: what it answers, in new memory; nothing that was there has turned. Condition: rows of at most 2^38 elements. -/
import Derived.Test.YtdbklklmpnlinaaLaidInt
import Derived.IntWalk
import Derived.Outline
namespace Go.Proofs.Ytdbklklmpnlinaa
open Go.RowKit

theorem laidInt_one (w : World) (v1 : Value) (xs1 : List Value) (h1 : Rd w v1 xs1) (o1 : ∀ u ∈ xs1, u.oneCell' = true) (hl : xs1.length ≤ 549755813888)
    (W : World) (k2 : W.heap[w.heap.size]? = some (.cells #[v1] 39 (0, 0))) (hb : Below w.heap.size w W) :
    Calls Try.prog 140 #[.slice (some ⟨w.heap.size, 0, none⟩) 1 1] W fun e w' => LaidInt W w' e xs1 := by
  have := laidInt_any w.heap.size 1 [(v1, xs1)] rfl W (fun i hi => ?_) (fun i hi => ?_) (by omega) (by simp; omega)
  · simpa using this
  · have hc : ∀ j, W.cell? ⟨w.heap.size, j, none⟩ = #[v1][j]? := fun j => by simp [World.cell?, k2]
    rcases i with _ | i
    · exact ⟨by rw [hc]; rfl, h1.keep hb⟩
    · first | (simp at hi; done) | (simp at hi; omega)
  · rcases i with _ | i
    · exact o1
    · first | (simp at hi; done) | (simp at hi; omega)

/-- Made of a world in which more lies. -/
theorem Made.backInt {w W w' : World} {v : Value} {xs : List Value} (h : Made W w' 3 v xs) (hb : Below w.heap.size w W) : Made w w' 3 v xs := by
  obtain ⟨g, h1, h2, h3, h4⟩ := h
  exact ⟨g, h1, Nat.le_trans hb.size h2, h3, hb.trans (h4.mono hb.size)⟩

/-- A part: from lo on, up to hi. -/
def MadePartInt (w w' : World) (e : Ending) (ys : List Value) : Prop := ∃ v, e = .returned v ∧ Made w w' 3 v ys

set_option maxHeartbeats 2000000 in
theorem partInt_yes (ao : Option Addr) (n c lo hi : Nat) (from_ to_ : Int) (xs : List Value) (w : World) (hr : Rd w (.slice ao n c) xs) (ho : ∀ u ∈ xs, u.oneCell' = true) (hn : n ≤ 274877906944) (h0 : lo < hi) (h1 : hi ≤ n)
    (hf : from_ = lo ∨ (from_ < 0 ∧ lo = 0)) (ht : to_ = hi ∨ ((n : Int) < to_ ∧ hi = n)) :
    Calls Try.prog 122 #[.slice ao n c, .int .i64 from_, .int .i64 to_] w fun e w' => MadePartInt w w' e ((xs.take hi).drop lo) := by
  have hlen := hr.len
  have hc1 := hlen.2.1
  have hc2 := hlen.2.2
  have hrd := (hr.take hi h1).drop lo (by omega) (ao.map fun x => x.add lo) (fun _ => rfl)
  have hrd0 : lo = 0 → Rd w (.slice ao (hi - lo) (c - lo)) ((xs.take hi).drop lo) := fun e => by
    subst e
    simpa using hr.take hi h1
  have hl : ((xs.take hi).drop lo).length ≤ 549755813888 := by rw [List.length_drop, List.length_take, hlen.1]; omega
  have hone : ∀ u ∈ (xs.take hi).drop lo, u.oneCell' = true := fun u hu => ho u (List.mem_of_mem_take (List.mem_of_mem_drop hu))
  generalize (xs.take hi).drop lo = ys at *
  have HL := Lib.hid (fun v1 (h : Rd w v1 ys) => laidInt_one w v1 ys h hone hl _ (one_alloc w (.cells #[v1] 39)).1 (one_alloc w (.cells #[v1] 39)).2)
  have HR := Lib.hid hrd
  have HR0 := Lib.hid hrd0
  have hlc : lo < c := by omega
  have hhc : hi ≤ c := by omega
  clear hlen hr ho hrd hrd0 hl hone
  rcases hf with rfl | ⟨hf, rfl⟩
  · rcases ht with rfl | ⟨ht, rfl⟩
    all_goals
      go_enter Try.func122, Try.ntmps122
      go_wp2_with fail
      all_goals first | (exfalso; omega) | skip
      all_goals
        refine (HL.out _ HR.out).mono ?_
        rintro e w3 ⟨v, rfl, hm⟩
        go_wp2
        go_ret
        exact ⟨v, rfl, hm.backInt (one_alloc _ _).2⟩
  · have HR1 := Lib.hid (HR0.out rfl)
    rcases ht with rfl | ⟨ht, rfl⟩
    all_goals
      go_enter Try.func122, Try.ntmps122
      go_wp2_with fail
      all_goals first | (exfalso; omega) | skip
      all_goals
        refine (HL.out _ HR1.out).mono ?_
        rintro e w3 ⟨v, rfl, hm⟩
        go_wp2
        go_ret
        exact ⟨v, rfl, hm.backInt (one_alloc _ _).2⟩

set_option maxHeartbeats 2000000 in
theorem partInt_no (ao : Option Addr) (n c : Nat) (from_ to_ : Int) (w : World) (hn : n ≤ 274877906944) (h : to_ ≤ from_ ∨ to_ ≤ 0 ∨ (n : Int) ≤ from_ ∨ n = 0) :
    Calls Try.prog 122 #[.slice ao n c, .int .i64 from_, .int .i64 to_] w fun e w' => e = .returned (.slice none 0 0) ∧ w' = w := by
  by_cases hf : from_ < 0
  · by_cases ht : (n : Int) < to_
    all_goals
      go_enter Try.func122, Try.ntmps122
      go_wp2_with fail
      all_goals first | (exfalso; omega) | (go_ret; exact ⟨rfl, rfl⟩)
  · by_cases ht : (n : Int) < to_
    all_goals
      go_enter Try.func122, Try.ntmps122
      go_wp2_with fail
      all_goals first | (exfalso; omega) | (go_ret; exact ⟨rfl, rfl⟩)

/-- What Part tells: a new row, or nothing. -/
def PartGivesInt (w w' : World) (e : Ending) (ys : List Value) : Prop := ∃ v, e = .returned v ∧ (Made w w' 3 v ys ∨ (v = .slice none 0 0 ∧ ys = [] ∧ w' = w))

theorem partInt_any (v : Value) (from_ to_ : Int) (xs : List Value) (w : World) (hr : Rd w v xs) (ho : ∀ u ∈ xs, u.oneCell' = true) (hn : xs.length ≤ 274877906944) :
    Calls Try.prog 122 #[v, .int .i64 from_, .int .i64 to_] w fun e w' => PartGivesInt w w' e ((xs.take (min to_ xs.length).toNat).drop (max from_ 0).toNat) := by
  obtain ⟨ao, c, rfl⟩ := hr.open
  by_cases h : (max from_ 0).toNat < (min to_ (xs.length : Int)).toNat
  · refine (partInt_yes ao xs.length c (max from_ 0).toNat (min to_ (xs.length : Int)).toNat from_ to_ xs w hr ho hn h (by omega) (by omega) (by omega)).mono ?_
    rintro e w' ⟨v, rfl, hm⟩
    exact ⟨v, rfl, Or.inl hm⟩
  · refine (partInt_no ao xs.length c from_ to_ w hn (by omega)).mono ?_
    rintro e w' ⟨rfl, rfl⟩
    refine ⟨_, rfl, Or.inr ⟨rfl, ?_, rfl⟩⟩
    apply List.drop_eq_nil_of_le
    rw [List.length_take]
    omega

end Go.Proofs.Ytdbklklmpnlinaa
