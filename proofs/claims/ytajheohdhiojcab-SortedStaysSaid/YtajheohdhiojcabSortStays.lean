/- The law SortedStays, walked: it returns true, for any row of texts, any text and any two numbers; nothing that was there has turned. Condition: the numbers are ints. -/
import Derived.Test.YtajheohdhiojcabSortLives
import Derived.Test.YtajheohdhiojcabOpsStr
namespace Go.Proofs.Ytajheohdhiojcab
open Go.RowKit

/-- By bytes, as a relation. -/
def Lt (a b : ByteArray) : Prop := lss a.data.toList b.data.toList = true

theorem rises_pair {xs : List ByteArray} : Rises xs ↔ xs.Pairwise Lt := by
  rw [List.pairwise_iff_getElem]
  constructor
  · intro h i j hi hj hij
    exact h.lt i j hij hj
  · intro h i hi
    exact h i (i + 1) (by omega) hi (by omega)

theorem rises_sub {xs ys : List ByteArray} (h : Rises xs) (hs : ys.Sublist xs) : Rises ys := rises_pair.2 ((rises_pair.1 h).sublist hs)

theorem rises_cut {xs : List ByteArray} (h : Rises xs) (f : Nat) : Rises (xs.take f ++ xs.drop (f + 1)) := by
  rw [← List.eraseIdx_eq_take_drop_succ]
  exact rises_sub h (List.eraseIdx_sublist _ _)

theorem rises_part {xs : List ByteArray} (h : Rises xs) (lo hi : Nat) : Rises ((xs.take hi).drop lo) := rises_sub h ((List.drop_sublist _ _).trans (List.take_sublist _ _))

theorem rises_ins {xs : List ByteArray} (h : Rises xs) (k : ByteArray) (at_ : Nat) (he : Edge xs.length at_ (pFind xs k)) (hno : ¬ (at_ < xs.length ∧ nth xs at_ = k)) : Rises (xs.take at_ ++ k :: xs.drop at_) := by
  have hlow : ∀ a ∈ xs.take at_, Lt a k := by
    intro a ha
    obtain ⟨i, hi, rfl⟩ := List.getElem_of_mem ha
    rw [List.length_take] at hi
    have := he.2.1 i (by omega)
    unfold pFind at this
    rw [nth_eq (by omega)] at this
    rw [List.getElem_take]
    simpa [Lt] using this
  have hhigh : ∀ b ∈ xs.drop at_, Lt k b := by
    intro b hb
    obtain ⟨i, hi, rfl⟩ := List.getElem_of_mem hb
    rw [List.length_drop] at hi
    have hfirst : Lt k (nth xs at_) := by
      have h1 := he.2.2 at_ (Nat.le_refl _) (by omega)
      unfold pFind at h1
      have h2 : lss (nth xs at_).data.toList k.data.toList = false := by simpa using h1
      unfold Lt
      cases g : lss k.data.toList (nth xs at_).data.toList with
      | true => rfl
      | false => exact absurd ⟨by omega, text_of (lss_total _ _ h2 g)⟩ hno
    rw [List.getElem_drop]
    by_cases e : i = 0
    · subst e
      rw [nth_eq (by omega)] at hfirst
      exact hfirst
    · have := h.lt at_ (at_ + i) (by omega) (by omega)
      rw [nth_eq (by omega)] at hfirst
      exact lss_trans _ _ _ hfirst this
  rw [rises_pair, List.pairwise_append]
  refine ⟨(rises_pair.1 h).sublist (List.take_sublist _ _), List.pairwise_cons.2 ⟨hhigh, (rises_pair.1 h).sublist (List.drop_sublist _ _)⟩, ?_⟩
  intro a ha b hb
  rcases List.mem_cons.1 hb with rfl | hb
  · exact hlow a ha
  · have hk := hlow a ha
    exact lss_trans _ _ _ hk (hhigh b hb)

theorem one_strs (xs : List ByteArray) : ∀ u ∈ xs.map Value.string, u.oneCell' = true := by
  intro u hu
  obtain ⟨s, _, rfl⟩ := List.mem_map.1 hu
  rfl

theorem rises_yes {xs : List ByteArray} (h : Rises xs) : true = true ↔ Rises xs := ⟨fun _ => h, fun _ => rfl⟩

/-- Part, as it is read. -/
theorem partStr_rd (v : Value) (from_ to_ : Int) (xs : List ByteArray) (w : World) (hr : Rd w v (xs.map Value.string)) (hn : xs.length ≤ 274877906944) :
    Calls Try.prog 18 #[v, .int .i64 from_, .int .i64 to_] w fun e w' => ∃ v, e = .returned v ∧ Rd w' v (((xs.take (min to_ xs.length).toNat).drop (max from_ 0).toNat).map Value.string) ∧ Below w.heap.size w w' := by
  refine (partStr_any v from_ to_ (xs.map Value.string) w hr (one_strs xs) (by rw [List.length_map]; exact hn)).mono ?_
  rintro e w' ⟨v, rfl, h⟩
  rw [List.length_map, ← List.map_take, ← List.map_drop] at h
  rcases h with hm | ⟨rfl, h2, rfl⟩
  · exact ⟨v, rfl, hm.rd (by rw [List.length_map, List.length_drop, List.length_take]; omega), hm.below⟩
  · exact ⟨_, rfl, by rw [h2]; exact Rd.nil _, Below.refl _ _⟩

/-- What Cut tells of a rising row. -/
def CutGives (w w' : World) (e : Ending) (xs : List ByteArray) (f : Int) : Prop :=
  (∃ (g : Nat) (L : Nat), 0 ≤ f ∧ f < xs.length ∧ L + 1 = xs.length ∧ e = .returned (.tuple #[.slice (some ⟨g, 0, none⟩) L L, .bool true]) ∧ Rd w' (.slice (some ⟨g, 0, none⟩) L L) ((xs.take f.toNat ++ xs.drop (f.toNat + 1)).map Value.string) ∧ Below w.heap.size w w')

theorem cutStr_rd (v : Value) (f : Int) (xs : List ByteArray) (w : World) (hr : Rd w v (xs.map Value.string)) (hn : xs.length ≤ 274877906944) (h0 : 0 ≤ f) (h1 : f < xs.length) :
    Calls Try.prog 17 #[v, .int .i64 f] w fun e w' => CutGives w w' e xs f := by
  obtain ⟨ao, c, hv⟩ := hr.open
  rw [List.length_map] at hv
  subst hv
  obtain ⟨k, rfl⟩ : ∃ k : Nat, f = k := ⟨f.toNat, by omega⟩
  refine (cutStr_yes ao xs.length c k (xs.map Value.string) w hr (one_strs xs) hn (by omega)).mono ?_
  rintro e w' ⟨v, rfl, g, rfl, hg, hw, hb⟩
  have hl : (List.take k (List.map Value.string xs) ++ List.drop (k + 1) (List.map Value.string xs)).length + 1 = xs.length := by
    rw [List.length_append, List.length_take, List.length_drop, List.length_map]; omega
  have hm : List.take k (List.map Value.string xs) ++ List.drop (k + 1) (List.map Value.string xs) = (xs.take k ++ xs.drop (k + 1)).map Value.string := by simp [List.map_take, List.map_drop]
  have hrd := hw.rd (by omega)
  refine ⟨g, _, by omega, h1, hl, rfl, ?_, hb⟩
  rw [show ((k : Int)).toNat = k by omega, ← hm]
  exact hrd

theorem cutStr_out (v : Value) (f : Int) (xs : List ByteArray) (w : World) (hr : Rd w v (xs.map Value.string)) (hn : xs.length ≤ 274877906944) (h : f < 0 ∨ (xs.length : Int) ≤ f) :
    Calls Try.prog 17 #[v, .int .i64 f] w fun e w' => e = .returned (.tuple #[.slice none 0 0, .bool false]) ∧ w' = w := by
  obtain ⟨ao, c, hv⟩ := hr.open
  rw [List.length_map] at hv
  subst hv
  exact cutStr_no ao xs.length c f w hn h

def AddGives (w w' : World) (e : Ending) (xs : List ByteArray) (k : ByteArray) (at_ : Nat) : Prop :=
  ∃ (g : Nat), e = .returned (.tuple #[.slice (some ⟨g, 0, none⟩) (xs.length + 1) (xs.length + 1), .bool true]) ∧ Rd w' (.slice (some ⟨g, 0, none⟩) (xs.length + 1) (xs.length + 1)) ((xs.take at_ ++ k :: xs.drop at_).map Value.string) ∧ Below w.heap.size w w'

theorem addStr_rd (v : Value) (at_ : Nat) (k : ByteArray) (xs : List ByteArray) (w : World) (hr : Rd w v (xs.map Value.string)) (hn : xs.length ≤ 274877906944) (h1 : at_ ≤ xs.length) :
    Calls Try.prog 15 #[v, .int .i64 at_, .string k] w fun e w' => AddGives w w' e xs k at_ := by
  obtain ⟨ao, c, hv⟩ := hr.open
  rw [List.length_map] at hv
  subst hv
  refine (addStr_yes ao xs.length c at_ k (xs.map Value.string) w hr (one_strs xs) hn h1).mono ?_
  rintro e w' ⟨v, rfl, g, rfl, hg, hw, hb⟩
  have hl : (List.take at_ (List.map Value.string xs) ++ Value.string k :: List.drop at_ (List.map Value.string xs)).length = xs.length + 1 := by
    rw [List.length_append, List.length_cons, List.length_take, List.length_drop, List.length_map]; omega
  have hm : List.take at_ (List.map Value.string xs) ++ Value.string k :: List.drop at_ (List.map Value.string xs) = (xs.take at_ ++ k :: xs.drop at_).map Value.string := by simp [List.map_take, List.map_drop]
  have hrd := hw.rd (by omega)
  rw [hl] at hrd ⊢
  rw [hm] at hrd
  exact ⟨g, rfl, hrd, hb⟩

theorem size_ins {xs : List ByteArray} {k : ByteArray} (at_ : Nat) (h : ∀ x ∈ xs, x.size ≤ 140737488355328) (hk : k.size ≤ 140737488355328) : ∀ x ∈ xs.take at_ ++ k :: xs.drop at_, x.size ≤ 140737488355328 := by
  intro x hx
  rcases List.mem_append.1 hx with hx | hx
  · exact h x (List.mem_of_mem_take hx)
  · rcases List.mem_cons.1 hx with rfl | hx
    · exact hk
    · exact h x (List.mem_of_mem_drop hx)

theorem size_cut {xs : List ByteArray} (f : Nat) (h : ∀ x ∈ xs, x.size ≤ 140737488355328) : ∀ x ∈ xs.take f ++ xs.drop (f + 1), x.size ≤ 140737488355328 := by
  intro x hx
  rcases List.mem_append.1 hx with hx | hx
  · exact h x (List.mem_of_mem_take hx)
  · exact h x (List.mem_of_mem_drop hx)

theorem size_part {xs : List ByteArray} (lo hi : Nat) (h : ∀ x ∈ xs, x.size ≤ 140737488355328) : ∀ x ∈ (xs.take hi).drop lo, x.size ≤ 140737488355328 := fun x hx => h x (List.mem_of_mem_take (List.mem_of_mem_drop hx))

/-- All calls of the law's end, at a row ys with value v. -/
structure Tail (v : Value) (ys : List ByteArray) (f t : Int) : Prop where
  cut : ∀ W, 0 ≤ f → f < ys.length → Rd W v (ys.map Value.string) → Calls Try.prog 17 #[v, .int .i64 f] W fun e w' => CutGives W w' e ys f
  out : ∀ W, f < 0 ∨ (ys.length : Int) ≤ f → Rd W v (ys.map Value.string) → Calls Try.prog 17 #[v, .int .i64 f] W fun e w' => e = .returned (.tuple #[.slice none 0 0, .bool false]) ∧ w' = W
  up : ∀ W, Rd W v (ys.map Value.string) → Calls Try.prog 13 #[v] W fun e w' => e = .returned (.bool true) ∧ Drew W w'
  upCut : ∀ W u, Rd W u ((ys.take f.toNat ++ ys.drop (f.toNat + 1)).map Value.string) → Calls Try.prog 13 #[u] W fun e w' => e = .returned (.bool true) ∧ Drew W w'
  upNil : ∀ W, Calls Try.prog 13 #[.slice none 0 0] W fun e w' => e = .returned (.bool true) ∧ Drew W w'
  part : ∀ W, Rd W v (ys.map Value.string) → Calls Try.prog 18 #[v, .int .i64 f, .int .i64 t] W fun e w' => ∃ v, e = .returned v ∧ Rd w' v (((ys.take (min t ys.length).toNat).drop (max f 0).toNat).map Value.string) ∧ Below W.heap.size W w'
  upPart : ∀ W u, Rd W u (((ys.take (min t ys.length).toNat).drop (max f 0).toNat).map Value.string) → Calls Try.prog 13 #[u] W fun e w' => e = .returned (.bool true) ∧ Drew W w'

theorem tail_of (v : Value) (ys : List ByteArray) (f t : Int) (hu : Rises ys) (hx : ∀ x ∈ ys, x.size ≤ 140737488355328) (hn : ys.length ≤ 1000) : Tail v ys f t where
  cut W h0 h1 hr := cutStr_rd v f ys W hr (by omega) h0 h1
  out W h hr := cutStr_out v f ys W hr (by omega) h
  up W hr := rrising_any v ys true W hr hx (by omega) (rises_yes hu)
  upCut W u hr := rrising_any u _ true W hr (size_cut _ hx) (by rw [List.length_append, List.length_take, List.length_drop]; omega) (rises_yes (rises_cut hu _))
  upNil W := rrising_any _ [] true W (Rd.nil W) (fun x hx => by cases hx) (by decide) (rises_yes (fun i hi => by simp at hi))
  part W hr := partStr_rd v f t ys W hr (by omega)
  upPart W u hr := rrising_any u _ true W hr (size_part _ _ hx) (by rw [List.length_drop, List.length_take]; omega) (rises_yes (rises_part hu _ _))

set_option maxHeartbeats 4000000 in
set_option maxRecDepth 100000 in
theorem sortedStays_any (v : Value) (k : ByteArray) (xs : List ByteArray) (f t : Int) (w : World) (hr : Rd w v (xs.map Value.string)) :
    Calls Try.prog 4 #[v, .string k, .int .i64 f, .int .i64 t] w fun e w' => e = .returned (.bool true) ∧ Below w.heap.size w w' := by
  have HV := fun W => Lib.hid (lives04 W)
  have HL0 := lightR_any v k xs w hr
  cases hlt : lightR xs k with
  | false =>
    rw [hlt] at HL0
    have HL := Lib.hid HL0
    obtain ⟨ao, c, hv⟩ := hr.open
    rw [List.length_map] at hv
    subst hv
    clear HL0 hlt hr
    go_enter Try.func4, Try.ntmps4
    go_wp2_with fail
    refine HL.out.mono ?_
    rintro e w1 ⟨rfl, rfl⟩
    go_wp2_with fail
    refine (HV _).out.mono ?_
    rintro e w2 ⟨rfl, hb⟩
    go_wp2
    go_ret
    exact ⟨rfl, hb⟩
  | true =>
    rw [hlt] at HL0
    have HL := Lib.hid HL0
    obtain ⟨hx0, hn0, hk0⟩ := lightR_size hlt
    have hx : ∀ x ∈ xs, x.size ≤ 140737488355328 := fun x h => Nat.le_trans (hx0 x h) (by decide)
    have hk : k.size ≤ 140737488355328 := Nat.le_trans hk0 (by decide)
    by_cases hu : Rises xs
    · have HU := Lib.hid (rrising_any v xs true w hr hx (by omega) (rises_yes hu))
      have HF := Lib.hid (fun W (h : Rd W v (xs.map Value.string)) => find_any v k xs W h hk hx (by omega) hu)
      have HA := Lib.hid (fun W at_ (h1 : at_ ≤ xs.length) (h : Rd W v (xs.map Value.string)) => addStr_rd v at_ k xs W h (by omega) h1)
      have HH := Lib.hid (fun W u at_ (h : Rd W u ((xs.take at_ ++ k :: xs.drop at_).map Value.string)) => rhas_any u k (xs.take at_ ++ k :: xs.drop at_) true W h ⟨fun _ => by simp, fun _ => rfl⟩)
      have HT := Lib.hid (tail_of v xs f t hu hx (by omega))
      have HI := Lib.hid (fun at_ g (he : Edge xs.length at_ (pFind xs k)) (hno : ¬ (at_ < xs.length ∧ nth xs at_ = k)) => tail_of (.slice (some ⟨g, 0, none⟩) (xs.length + 1) (xs.length + 1)) (xs.take at_ ++ k :: xs.drop at_) f t (rises_ins hu k at_ he hno) (size_ins at_ hx hk) (by rw [List.length_append, List.length_cons, List.length_take, List.length_drop]; omega))
      have HR := Lib.hid hr
      obtain ⟨ao, c, hv⟩ := hr.open
      rw [List.length_map] at hv
      subst hv
      clear HL0 hlt hr hx0 hx hk hk0 hu
      obtain ⟨n, hn⟩ : ∃ n, n = xs.length := ⟨_, rfl⟩
      rw [← hn] at HL HU HF HA HT HI HR hn0 ⊢
      have HN := Lib.hid hn
      clear hn
      go_enter Try.func4, Try.ntmps4
      go_wp2_with fail
      refine HL.out.mono ?_
      rintro e w0 ⟨rfl, rfl⟩
      go_wp2_with fail
      refine HU.out.mono ?_
      rintro e w1 ⟨rfl, hd1⟩
      have R1 := Lib.hid (HR.out.keep (hd1.below0 _))
      have B1' := Lib.hid (hd1.below0 w0.heap.size)
      clear hd1
      go_wp2_with fail
      refine (HF.out _ R1.out).mono ?_
      rintro e w2 ⟨at_, is, rfl, hE, his, hb2⟩
      have R2 := Lib.hid (R1.out.keep hb2)
      have B2 := Lib.hid (B1'.out.trans (hb2.mono B1'.out.size))
      rw [← HN.out] at hE his
      have han := hE.1
      have HE := Lib.hid hE
      have HIS := Lib.hid his
      clear hE his hb2
      cases is with
      | true =>
        have TL := HT
        by_cases hin : 0 ≤ f ∧ f < (n : Int)
        · have hf0 := hin.1
          have hf1 := hin.2
          clear hin
          go_wp2_with fail
          refine (TL.out.cut _ hf0 (by have := HN.out; omega) R2.out).mono ?_
          rintro e w6 ⟨g6, L6, _, _, hL6, rfl, hr6, hb6⟩
          have R6 := Lib.hid (R2.out.keep hb6)
          have C6 := Lib.hid hr6
          have B6 := Lib.hid (B2.out.trans (hb6.mono B2.out.size))
          have hq : ((L6 : Int) != (n : Int) - 1) = false := by rw [bne_eq_false_iff_eq]; have := HN.out; omega
          clear hr6 hb6 hL6
          go_wp2_with fail
          refine (TL.out.up _ R6.out).mono ?_
          rintro e w7 ⟨rfl, hd7⟩
          have R7 := Lib.hid (R6.out.keep (hd7.below0 _))
          have C7 := Lib.hid (C6.out.keep (hd7.below0 _))
          have B7 := Lib.hid (B6.out.trans (hd7.below0 _))
          clear hd7
          go_wp2_with fail
          refine (TL.out.upCut _ _ C7.out).mono ?_
          rintro e w8 ⟨rfl, hd8⟩
          have R8 := Lib.hid (R7.out.keep (hd8.below0 _))
          have B8 := Lib.hid (B7.out.trans (hd8.below0 _))
          clear hd8
          go_wp2_with fail
          refine (TL.out.part _ R8.out).mono ?_
          rintro e w9 ⟨v9, rfl, hr9, hb9⟩
          have P9 := Lib.hid hr9
          have B9 := Lib.hid (B8.out.trans (hb9.mono B8.out.size))
          clear hr9 hb9
          go_wp2_with fail
          refine (TL.out.upPart _ _ P9.out).mono ?_
          rintro e wa ⟨rfl, hda⟩
          have Ba := Lib.hid (B9.out.trans (hda.below0 _))
          clear hda
          go_wp2_with fail
          refine (HV _).out.mono ?_
          rintro e wb ⟨rfl, hbb⟩
          go_wp2
          go_ret
          exact ⟨rfl, Ba.out.trans (hbb.mono Ba.out.size)⟩
        · rcases (show f < 0 ∨ (n : Int) ≤ f by omega) with hf | hf
          all_goals
            clear hin
            go_wp2_with fail
            refine (TL.out.out _ (by have := HN.out; omega) R2.out).mono ?_
            rintro e w6 ⟨rfl, rfl⟩
            go_wp2_with fail
            refine (TL.out.up _ R2.out).mono ?_
            rintro e w7 ⟨rfl, hd7⟩
            have R7 := Lib.hid (R2.out.keep (hd7.below0 _))
            have B7 := Lib.hid (B2.out.trans (hd7.below0 _))
            clear hd7
            go_wp2_with fail
            refine (TL.out.upNil _).mono ?_
            rintro e w8 ⟨rfl, hd8⟩
            have R8 := Lib.hid (R7.out.keep (hd8.below0 _))
            have B8 := Lib.hid (B7.out.trans (hd8.below0 _))
            clear hd8
            go_wp2_with fail
            refine (TL.out.part _ R8.out).mono ?_
            rintro e w9 ⟨v9, rfl, hr9, hb9⟩
            have P9 := Lib.hid hr9
            have B9 := Lib.hid (B8.out.trans (hb9.mono B8.out.size))
            clear hr9 hb9
            go_wp2_with fail
            refine (TL.out.upPart _ _ P9.out).mono ?_
            rintro e wa ⟨rfl, hda⟩
            have Ba := Lib.hid (B9.out.trans (hda.below0 _))
            clear hda
            go_wp2_with fail
            refine (HV _).out.mono ?_
            rintro e wb ⟨rfl, hbb⟩
            go_wp2
            go_ret
            exact ⟨rfl, Ba.out.trans (hbb.mono Ba.out.size)⟩
      | false =>
        have hno : ¬ (at_ < n ∧ nth xs at_ = k) := fun h => by have := HIS.out.2 h; cases this
        have HNO := Lib.hid hno
        clear hno
        go_wp2_with fail
        refine (HA.out _ at_ (by have := HN.out; omega) R2.out).mono ?_
        rintro e w3 ⟨g, rfl, hr3, hb3⟩
        rw [← HN.out] at hr3
        have R3 := Lib.hid hr3
        have B3 := Lib.hid (B2.out.trans (hb3.mono B2.out.size))
        have TL := Lib.hid (HI.out at_ g HE.out HNO.out)
        have hlen : (xs.take at_ ++ k :: xs.drop at_).length = n + 1 := by rw [List.length_append, List.length_cons, List.length_take, List.length_drop]; have := HN.out; omega
        have HLN := Lib.hid hlen
        clear hr3 hb3 hlen
        simp only [← HN.out]
        go_wp2_with fail
        refine (HH.out _ _ at_ R3.out).mono ?_
        rintro e w4 ⟨rfl, rfl⟩
        by_cases hin : 0 ≤ f ∧ f < ((n : Int) + 1)
        · have hf0 := hin.1
          have hf1 := hin.2
          clear hin
          go_wp2_with fail
          refine (TL.out.cut _ hf0 (by have := HLN.out; omega) R3.out).mono ?_
          rintro e w6 ⟨g6, L6, _, _, hL6, rfl, hr6, hb6⟩
          have R6 := Lib.hid (R3.out.keep hb6)
          have C6 := Lib.hid hr6
          have B6 := Lib.hid (B3.out.trans (hb6.mono B3.out.size))
          have hq : ((L6 : Int) != ((n : Int) + 1) - 1) = false := by rw [bne_eq_false_iff_eq]; have := HLN.out; omega
          clear hr6 hb6 hL6
          go_wp2_with fail
          refine (TL.out.up _ R6.out).mono ?_
          rintro e w7 ⟨rfl, hd7⟩
          have R7 := Lib.hid (R6.out.keep (hd7.below0 _))
          have C7 := Lib.hid (C6.out.keep (hd7.below0 _))
          have B7 := Lib.hid (B6.out.trans (hd7.below0 _))
          clear hd7
          go_wp2_with fail
          refine (TL.out.upCut _ _ C7.out).mono ?_
          rintro e w8 ⟨rfl, hd8⟩
          have R8 := Lib.hid (R7.out.keep (hd8.below0 _))
          have B8 := Lib.hid (B7.out.trans (hd8.below0 _))
          clear hd8
          go_wp2_with fail
          refine (TL.out.part _ R8.out).mono ?_
          rintro e w9 ⟨v9, rfl, hr9, hb9⟩
          have P9 := Lib.hid hr9
          have B9 := Lib.hid (B8.out.trans (hb9.mono B8.out.size))
          clear hr9 hb9
          go_wp2_with fail
          refine (TL.out.upPart _ _ P9.out).mono ?_
          rintro e wa ⟨rfl, hda⟩
          have Ba := Lib.hid (B9.out.trans (hda.below0 _))
          clear hda
          go_wp2_with fail
          refine (HV _).out.mono ?_
          rintro e wb ⟨rfl, hbb⟩
          go_wp2
          go_ret
          exact ⟨rfl, Ba.out.trans (hbb.mono Ba.out.size)⟩
        · rcases (show f < 0 ∨ ((n : Int) + 1) ≤ f by omega) with hf | hf
          all_goals
            clear hin
            go_wp2_with fail
            refine (TL.out.out _ (by have := HLN.out; omega) R3.out).mono ?_
            rintro e w6 ⟨rfl, rfl⟩
            go_wp2_with fail
            refine (TL.out.up _ R3.out).mono ?_
            rintro e w7 ⟨rfl, hd7⟩
            have R7 := Lib.hid (R3.out.keep (hd7.below0 _))
            have B7 := Lib.hid (B3.out.trans (hd7.below0 _))
            clear hd7
            go_wp2_with fail
            refine (TL.out.upNil _).mono ?_
            rintro e w8 ⟨rfl, hd8⟩
            have R8 := Lib.hid (R7.out.keep (hd8.below0 _))
            have B8 := Lib.hid (B7.out.trans (hd8.below0 _))
            clear hd8
            go_wp2_with fail
            refine (TL.out.part _ R8.out).mono ?_
            rintro e w9 ⟨v9, rfl, hr9, hb9⟩
            have P9 := Lib.hid hr9
            have B9 := Lib.hid (B8.out.trans (hb9.mono B8.out.size))
            clear hr9 hb9
            go_wp2_with fail
            refine (TL.out.upPart _ _ P9.out).mono ?_
            rintro e wa ⟨rfl, hda⟩
            have Ba := Lib.hid (B9.out.trans (hda.below0 _))
            clear hda
            go_wp2_with fail
            refine (HV _).out.mono ?_
            rintro e wb ⟨rfl, hbb⟩
            go_wp2
            go_ret
            exact ⟨rfl, Ba.out.trans (hbb.mono Ba.out.size)⟩
    · have hrf : false = true ↔ Rises xs := ⟨fun h => (by cases h), fun h => absurd h hu⟩
      have HU := Lib.hid (rrising_any v xs false w hr hx (by omega) hrf)
      obtain ⟨ao, c, hv⟩ := hr.open
      rw [List.length_map] at hv
      subst hv
      clear HL0 hlt hr hx0 hx hk hk0 hu hrf
      go_enter Try.func4, Try.ntmps4
      go_wp2_with fail
      refine HL.out.mono ?_
      rintro e w0 ⟨rfl, rfl⟩
      go_wp2_with fail
      refine HU.out.mono ?_
      rintro e w1 ⟨rfl, hd1⟩
      have B1 := Lib.hid (hd1.below0 w0.heap.size)
      clear hd1
      go_wp2_with fail
      refine (HV _).out.mono ?_
      rintro e w2 ⟨rfl, hb⟩
      go_wp2
      go_ret
      exact ⟨rfl, B1.out.trans (hb.mono B1.out.size)⟩
end Go.Proofs.Ytajheohdhiojcab
